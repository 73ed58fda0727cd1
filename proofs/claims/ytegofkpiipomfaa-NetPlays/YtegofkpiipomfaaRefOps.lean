/- The contracts of the document's Cut and Counts; what a pair's row comes to. -/
import Derived.Test.YtegofkpiipomfaaRefWay
namespace Go.Proofs.Ytegofkpiipomfaa
open Go.RowKit

/-- No pair stands twice. -/
def WU (l : List Wy) : Prop := l.Pairwise (fun a b => ¬ (a.src = b.src ∧ a.dst = b.dst))

/-- l' is l, but that of the pair (k, i) y is known. -/
structure Put (l l' : List Wy) (k i : Int) (y : Wy) : Prop where
  here : wyOf l' k i = y
  else_ : ∀ k' i', ¬ (k' = k ∧ i' = i) → wyOf l' k' i' = wyOf l k' i'
  wu : WU l'
  len : l'.length ≤ l.length + 1

theorem find_set_not {p : Wy → Bool} : ∀ (l : List Wy) (j : Nat) (y y' : Wy), l[j]? = some y → p y = false → p y' = false → (l.set j y').find? p = l.find? p
  | [], _, _, _, h, _, _ => by simp at h
  | a :: r, 0, y, y', h, h1, h2 => by
    simp at h
    subst h
    rw [List.set_cons_zero, List.find?_cons_of_neg (by simp [h2]), List.find?_cons_of_neg (by simp [h1])]
  | a :: r, j + 1, y, y', h, h1, h2 => by
    simp at h
    rw [List.set_cons_succ, List.find?_cons, List.find?_cons, find_set_not r j y y' h h1 h2]

theorem find_set_at {p : Wy → Bool} : ∀ (l : List Wy) (j : Nat) (y y' : Wy), l[j]? = some y → (∀ t, t < j → ∀ z, l[t]? = some z → p z = false) → p y' = true → (l.set j y').find? p = some y'
  | [], _, _, _, h, _, _ => by simp at h
  | a :: r, 0, y, y', _, _, h2 => by rw [List.set_cons_zero, List.find?_cons_of_pos h2]
  | a :: r, j + 1, y, y', h, h1, h2 => by
    simp at h
    rw [List.set_cons_succ, List.find?_cons_of_neg (by simp [h1 0 (by omega) a rfl])]
    exact find_set_at r j y y' h (fun t ht z hz => h1 (t + 1) (by omega) z (by simpa using hz)) h2

theorem wu_before {l : List Wy} (h : WU l) {j : Nat} {y : Wy} {k i : Int} (hj : l[j]? = some y) (hy : isWy k i y = true) : ∀ t, t < j → ∀ z, l[t]? = some z → isWy k i z = false := fun t ht z hz => by
  obtain ⟨hl, e⟩ := List.getElem?_eq_some_iff.1 hj
  obtain ⟨hl', e'⟩ := List.getElem?_eq_some_iff.1 hz
  have h1 := List.pairwise_iff_getElem.1 h t j hl' hl ht
  rw [e, e'] at h1
  unfold isWy at hy ⊢
  simp at hy ⊢
  intro h2 h3
  exact h1 ⟨h2.trans hy.1.symm, h3.trans hy.2.symm⟩

theorem wu_way {l : List Wy} (h : WU l) (k i : Int) : WU (wayS l k i) := by
  unfold wayS
  split
  · exact h
  · rename_i hn
    refine List.pairwise_append.2 ⟨h, by simp, fun a ha b hb => ?_⟩
    rw [List.mem_singleton] at hb
    subst hb
    intro e
    have : l.find? (isWy k i) = none := by simpa using hn
    rw [List.find?_eq_none] at this
    exact this a ha (by unfold isWy; simp [e])

theorem wyOf_is (l : List Wy) (k i : Int) : isWy k i (wyOf l k i) = true := by
  unfold wyOf
  cases h : l.find? (isWy k i) with
  | none => simp [isWy]
  | some y => exact List.find?_some h

theorem wyOf_way (l : List Wy) (k i k' i' : Int) : wyOf (wayS l k i) k' i' = wyOf l k' i' := by
  unfold wayS
  split
  · rfl
  · rename_i hn
    unfold wyOf
    rw [List.find?_append]
    by_cases e : k = k' ∧ i = i'
    · obtain ⟨rfl, rfl⟩ := e
      have : l.find? (isWy k i) = none := by simpa using hn
      rw [this]
      simp [isWy]
    · have h2 : [(⟨k, i, 0, 0, false⟩ : Wy)].find? (isWy k' i') = none := by
        rw [List.find?_eq_none]
        intro z hz
        rw [List.mem_singleton] at hz
        subst hz
        simpa [isWy] using e
      rw [h2]
      simp

theorem way_put {l : List Wy} (h : WU l) {k i : Int} {j : Nat} (hj : (wayS l k i)[j]? = some (wyOf l k i)) {y' : Wy} (hy : isWy k i y' = true) : Put l ((wayS l k i).set j y') k i y' := by
  have hw := wu_way h k i
  have hb := wu_before hw hj (wyOf_is l k i)
  refine ⟨?_, fun k' i' hne => ?_, ?_, ?_⟩
  · unfold wyOf
    rw [find_set_at _ j _ y' hj hb hy]
    rfl
  · rw [← wyOf_way l k i k' i']
    unfold wyOf
    have hn : ∀ z, isWy k i z = true → isWy k' i' z = false := fun z hz => by
      unfold isWy at hz ⊢
      simp at hz ⊢
      intro e1 e2
      exact hne ⟨e1.symm.trans hz.1, e2.symm.trans hz.2⟩
    rw [find_set_not _ j _ y' hj (hn _ (wyOf_is l k i)) (hn _ hy)]
  · obtain ⟨hl, e⟩ := List.getElem?_eq_some_iff.1 hj
    refine List.pairwise_iff_getElem.2 (fun a b ha hb' hab => ?_)
    simp only [List.length_set] at ha hb'
    have h0 := List.pairwise_iff_getElem.1 hw
    have ey : y'.src = (wyOf l k i).src ∧ y'.dst = (wyOf l k i).dst := by
      have h1 := wyOf_is l k i
      unfold isWy at hy h1
      simp at hy h1
      exact ⟨hy.1.trans h1.1.symm, hy.2.trans h1.2.symm⟩
    rw [List.getElem_set, List.getElem_set]
    split
    · rename_i h1
      split
      · omega
      · have h2 := h0 a b ha hb' hab
        subst h1
        rw [e] at h2
        rw [ey.1, ey.2]
        exact h2
    · split
      · rename_i h1
        have h2 := h0 a b ha hb' hab
        subst h1
        rw [e] at h2
        rw [ey.1, ey.2]
        exact h2
      · exact h0 a b ha hb' hab
  · rw [List.length_set]
    unfold wayS
    split
    · omega
    · simp

/-- A cell of what is known of a pair is written. -/
theorem RefIn.setWay {w : World} {r g c j q : Nat} {lv : Value} {s : RefSt} {y y' : Wy} {u : Value} (h : RefIn w r lv (.slice (some ⟨g, 0, none⟩) s.ways.length c) s) (hk : s.ways[j]? = some y) (hq : q < 5) (hx : (wyCells y).set q u = wyCells y') :
    RefIn (w.setCell ⟨g, j * 5 + q, none⟩ u) r lv (.slice (some ⟨g, 0, none⟩) s.ways.length c) { s with ways := s.ways.set j y' } := by
  have hgr : r ≠ g := fun e => h.nw (by rw [e]; rfl)
  have hb := Below.heap_setCell w ⟨g, j * 5 + q, none⟩ u r hgr
  refine ⟨(World.cell?_of_block hb).trans h.c0, (World.cell?_of_block hb).trans h.c1, fun i => (World.frozen?_of_block hb).trans (h.f i), h.own.same (fun i hi => Below.heap_setCell w _ _ i (fun e => h.lw i hi (by rw [e]; rfl))), ?_, h.nl, h.nw, h.lw⟩
  exact h.ways.set hk hq hx

section
variable {T : Nat → Prop} {w : World} {r : Nat} {s : RefSt}

/-- The slice of the pairs, once there is one. -/
theorem ways_some {lv wv : Value} (h : RefIn w r lv wv s) {j : Nat} {y : Wy} (hj : s.ways[j]? = some y) : ∃ g c, wv = .slice (some ⟨g, 0, none⟩) s.ways.length c ∧ s.ways.length ≤ c ∧ c ≤ 9223372036854775807 ∧ OwnW w (.slice (some ⟨g, 0, none⟩) s.ways.length c) s.ways := by
  rcases h.ways.cases with ⟨_, e⟩ | ⟨g, cap, e, h1, h2, _, h3⟩
  · rw [e] at hj
    simp at hj
  · exact ⟨g, cap, e, h1, h2, h3⟩

set_option maxHeartbeats 1000000 in
set_option maxRecDepth 100000 in
theorem refCut_any (h : RefAt T w r s) (hU : WU s.ways) (k i : Int) (on : Bool) (hroom : s.ways.length < 1000000) :
    Calls Try.prog 17 #[.pointer (some ⟨r, 0, none⟩), .int .i64 k, .int .i64 i, .bool on] w fun e w' => e = .returned (.tuple #[]) ∧ ∃ ways', RNext T w w' r { s with ways := ways' } ∧ Put s.ways ways' k i { wyOf s.ways k i with cut := on } := by
  have Hw := hid (way_any h k i hroom)
  have HU := hid hU
  clear h hU
  go_enter Try.func17, Try.ntmps17
  go_wp2_with fail
  refine Hw.out.mono ?_
  rintro e w2 ⟨j, rfl, ⟨T', ⟨lv, wv, hN, hT⟩, hTT, hK⟩, hj⟩
  obtain ⟨g, c, rfl, hle, h63, hW⟩ := ways_some hN hj
  obtain ⟨_, _, _, _, a4⟩ := hW.cells5 hj
  have f4 := hW.frozenAt (j * 5 + 4)
  have c1 := hN.c1
  have hjl := (List.getElem?_eq_some_iff.1 hj).1
  have hjz : (j : Int) < ((wayS s.ways k i).length : Int) := by omega
  have fin : Hid (∃ ways', RNext T w (w2.setCell ⟨g, j * 5 + 4, none⟩ (.bool on)) r { s with ways := ways' } ∧ Put s.ways ways' k i { wyOf s.ways k i with cut := on }) := by
    refine ⟨(wayS s.ways k i).set j { wyOf s.ways k i with cut := on }, ?_, way_put HU.out hj (wyOf_is s.ways k i)⟩
    have hR := hN.setWay (q := 4) (u := .bool on) (y' := { wyOf s.ways k i with cut := on }) hj (by decide) rfl
    have hgT : T' g := (hT g).2 (Or.inr (Or.inr rfl))
    refine ⟨_, ⟨_, _, hR, fun _ => Iff.rfl⟩, fun q hq => hTT q ((hT q).2 hq), hK.setCell ?_ _⟩
    exact (hTT g hgT).symm
  simp only at hle c1 a4
  generalize (wayS s.ways k i).length = n at *
  clear hN hT hTT hK hW hj hjl Hw HU
  go_wp2
  go_end0
  exact ⟨rfl, fin.out⟩

end
end Go.Proofs.Ytegofkpiipomfaa
