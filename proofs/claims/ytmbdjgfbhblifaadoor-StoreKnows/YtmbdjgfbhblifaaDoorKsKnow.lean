/- What a store knows behind so many names that were set, as a law follows it; and a law's own store's Chap. -/
import Derived.Test.YtmbdjgfbhblifaaDoorKsOne
import Derived.Test.YtmbdjgfbhblifaaDoorKsChap
namespace Go.Proofs.YtmbdjgfbhblifaaDoor
open Go.RowKit

/-- Behind i names that were set: is the name known, and by which secret? -/
structure KnA (full : ByteArray) (is : Bool) (want : ByteArray) (A : Ab) (i : Nat) : Prop where
  look : A.look (splitF full) = if is = true then some ⟨want, 0, 0⟩ else none
  no : is = false → want = ⟨#[]⟩
  size : want.size ≤ 60
  all : ∀ q e, A.look q = some e → e.secret.size ≤ 60 ∧ e.wrong = 0 ∧ e.last = 0
  n : A.n ≤ i
theorem bytes_empty {x : ByteArray} (h : x.size = 0) : x = ⟨#[]⟩ := by
  apply ByteArray.ext
  exact Array.eq_empty_of_size_eq_zero h
theorem updA_same (f : Two2 → Option En) (q : Two2) (o : Option En) : updA f q o q = o := by unfold updA; rw [if_pos rfl]
theorem updA_other (f : Two2 → Option En) {p q : Two2} (o : Option En) (h : p ≠ q) : updA f q o p = f p := by unfold updA; rw [if_neg h]
theorem KnA.start (full : ByteArray) : KnA full false ⟨#[]⟩ empA 0 := ⟨rfl, fun _ => rfl, by decide, fun q e h => (by cases h), Nat.le_refl _⟩
theorem KnA.few {full want : ByteArray} {is : Bool} {A : Ab} {i : Nat} (h : KnA full is want A i) (hi : i ≤ 1000) : FewA A := by
  refine ⟨by have := h.n; omega, fun q e he => ?_⟩
  obtain ⟨h1, h2, h3⟩ := h.all q e he
  refine ⟨by omega, by omega, by omega, ?_⟩
  rw [h3]
  exact ⟨by decide, by decide⟩
theorem KnA.set {full want : ByteArray} {is : Bool} {A : Ab} {i : Nat} (h : KnA full is want A i) (hi : i < 60) (n s : ByteArray) (hn : n.size ≤ 60) (hs : s.size ≤ 60) :
    (setA A n s).1 = 0 ∧ (splitF n = splitF full → KnA full (decide (s.size ≠ 0)) s (setA A n s).2 (i + 1)) ∧ (splitF n ≠ splitF full → KnA full is want (setA A n s).2 (i + 1)) := by
  have hn2 := h.n
  by_cases hz : s.size = 0
  · rw [setA_del (by omega) (Or.inr (by omega)) hz]
    have hall : ∀ q e, (delA A (splitF n)).look q = some e → e.secret.size ≤ 60 ∧ e.wrong = 0 ∧ e.last = 0 := fun q e he => by
      have he' : updA A.look (splitF n) none q = some e := he
      by_cases hq : q = splitF n
      · rw [hq, updA_same] at he'
        cases he'
      · rw [updA_other _ _ hq] at he'
        exact h.all q e he'
    have hcnt : (delA A (splitF n)).n ≤ i + 1 := by
      show (if (A.look (splitF n)).isSome then A.n - 1 else A.n) ≤ i + 1
      split <;> omega
    refine ⟨rfl, fun e => ⟨?_, fun _ => bytes_empty hz, hs, hall, hcnt⟩, fun e => ⟨?_, h.no, h.size, hall, hcnt⟩⟩
    · show updA A.look (splitF n) none (splitF full) = _
      rw [e, updA_same, if_neg (by simp [hz])]
    · show updA A.look (splitF n) none (splitF full) = _
      rw [updA_other _ _ (Ne.symm e)]
      exact h.look
  · rw [setA_put (by omega) (Or.inr (by omega)) hz]
    have hz0 : ∀ o : Option En, A.look (splitF n) = o → (o.getD en0).wrong = 0 ∧ (o.getD en0).last = 0 := fun o ho => by
      cases o with
      | none => exact ⟨rfl, rfl⟩
      | some e => exact (h.all _ e ho).2
    obtain ⟨hw, hl⟩ := hz0 _ rfl
    have hE : ({ (A.look (splitF n)).getD en0 with secret := s } : En) = ⟨s, 0, 0⟩ := by
      generalize (A.look (splitF n)).getD en0 = E at *
      cases E
      simp only at hw hl
      rw [hw, hl]
    rw [hE]
    have hall : ∀ q e, (putA A (splitF n) ⟨s, 0, 0⟩).look q = some e → e.secret.size ≤ 60 ∧ e.wrong = 0 ∧ e.last = 0 := fun q e he => by
      have he' : updA A.look (splitF n) (some ⟨s, 0, 0⟩) q = some e := he
      by_cases hq : q = splitF n
      · rw [hq, updA_same] at he'
        rw [← Option.some.inj he']
        exact ⟨hs, rfl, rfl⟩
      · rw [updA_other _ _ hq] at he'
        exact h.all q e he'
    have hcnt : (putA A (splitF n) ⟨s, 0, 0⟩).n ≤ i + 1 := by
      show (if (A.look (splitF n)).isSome then A.n else A.n + 1) ≤ i + 1
      split <;> omega
    refine ⟨rfl, fun e => ⟨?_, fun e2 => absurd hz (by simpa using e2), hs, hall, hcnt⟩, fun e => ⟨?_, h.no, h.size, hall, hcnt⟩⟩
    · show updA A.look (splitF n) (some ⟨s, 0, 0⟩) (splitF full) = _
      rw [e, updA_same, if_pos (by simpa using hz)]
    · show updA A.look (splitF n) (some ⟨s, 0, 0⟩) (splitF full) = _
      rw [updA_other _ _ (Ne.symm e)]
      exact h.look

/-- A name that is known by a secret, which was wrong k times at most. -/
structure KnB (full want : ByteArray) (A : Ab) (k : Int) : Prop where
  few : FewA A
  look : ∃ e, A.look (splitF full) = some e ∧ e.secret = want ∧ 0 ≤ e.wrong ∧ e.wrong ≤ k
theorem KnB.try {full want : ByteArray} {A : Ab} {k : Int} (h : KnB full want A k) (hk : k ≤ 1000) (calm : Int) (good : ByteArray → Bool) (hw : want.size ≤ 1000000) :
    (tryP 0 calm A full good 0).1 = (if good want = true then 0 else 30) ∧ KnB full want (tryP 0 calm A full good 0).2 (k + 1) := by
  obtain ⟨e, h1, h2, h3, h4⟩ := h.look
  have hput : ∀ e' : En, e'.secret = want → 0 ≤ e'.wrong → e'.wrong ≤ k + 1 → e'.last = 0 → KnB full want (putA A (splitF full) e') (k + 1) := fun e' a1 a2 a3 a4 => by
    refine ⟨⟨?_, fun q x hx => ?_⟩, e', updA_same _ _ _, a1, a2, a3⟩
    · show (if (A.look (splitF full)).isSome then A.n else A.n + 1) ≤ 1000
      rw [h1]
      exact h.few.1
    · have hx' : updA A.look (splitF full) (some e') q = some x := hx
      by_cases hq : q = splitF full
      · rw [hq, updA_same] at hx'
        rw [← Option.some.inj hx', a1, a4]
        exact ⟨hw, a2, by omega, ⟨by decide, by decide⟩⟩
      · rw [updA_other _ _ hq] at hx'
        exact h.few.2 q x hx'
  unfold tryP
  rw [h1]
  simp only
  rw [if_neg (by unfold shutE; simp), h2]
  by_cases hg : good want = true
  · rw [if_pos hg, if_pos hg]
    exact ⟨rfl, hput _ rfl (by show (0 : Int) ≤ 0; omega) (by show (0 : Int) ≤ k + 1; omega) rfl⟩
  · rw [if_neg hg, if_neg hg]
    refine ⟨rfl, hput _ h2 ?_ ?_ rfl⟩
    · show 0 ≤ (if e.wrong < 2147483647 then e.wrong + 1 else e.wrong)
      split <;> omega
    · show (if e.wrong < 2147483647 then e.wrong + 1 else e.wrong) ≤ k + 1
      split <;> omega
theorem KnA.known {full want : ByteArray} {A : Ab} {i : Nat} (h : KnA full true want A i) (hi : i ≤ 1000) : KnB full want A 0 :=
  ⟨h.few hi, ⟨want, 0, 0⟩, by rw [h.look]; rfl, rfl, by show (0 : Int) ≤ 0; omega, by show (0 : Int) ≤ 0; omega⟩
theorem KnA.unknown {full want : ByteArray} {A : Ab} {i : Nat} (h : KnA full false want A i) (limit calm : Int) (good : ByteArray → Bool) (time : Int) : tryP limit calm A full good time = (30, A) := by
  have hl := h.look
  unfold tryP
  rw [hl]
  rfl

section
variable {w0 w : World} {b : Nat} {limit calm : Int} {A : Ab}
theorem SMine.chap (h : SMine w0 w b limit calm A) (hT : Tables w0) (hc : 0 ≤ calm ∧ calm ≤ 1000000) (hA : FewA A) (s v x : ByteArray) (id : Int) (hs : s.size ≤ 1000000) (hv : v.size ≤ 1000000) (hx : x.size ≤ 1000000) (time : Int) (ht : In64 time) :
    Calls Tryd.prog 12 #[.pointer (some ⟨b, 0, none⟩), .string s, .int .i64 id, .string v, .string x, .int .i64 time] w fun e w' => e = .returned (.int .i64 (tryP limit calm A s (fun y => goodS x (chapK id y v)) time).1) ∧ SMine w0 w' b limit calm (tryP limit calm A s (fun y => goodS x (chapK id y v)) time).2 := by
  obtain ⟨m, hm⟩ := h.here
  exact (chapS_any hm hc hA (tab_kept hT h.kept) s v x id hs hv hx time ht).mono fun _ _ ⟨h1, h2, h3⟩ => ⟨h1, h.step h2 h3⟩
end
end Go.Proofs.YtmbdjgfbhblifaaDoor
