/- The plain side of a net: what is counted, lost and sent. -/
import Derived.Test.YtegofkpiipomfaaLoseOld
namespace Go.Proofs.Ytegofkpiipomfaa

theorem upTo_cnt {n m : Int} (hn : Cnt n) (hm : Cnt m) : Cnt (upToI n m) := by
  unfold Cnt upToI at *
  split <;> omega

theorem find_put (ts : List Tm) (k i a l k' i' : Int) : findT (dropT ts k i ++ [⟨k, i, a, l⟩]) k' i' = if k = k' ∧ i = i' then some ⟨k, i, a, l⟩ else findT ts k' i' := by
  unfold findT dropT
  rw [List.find?_append]
  by_cases h : k = k' ∧ i = i'
  · obtain ⟨rfl, rfl⟩ := h
    rw [if_pos ⟨rfl, rfl⟩]
    have h1 : (ts.filter (fun t => !isOf k i t)).find? (isOf k i) = none := by
      rw [List.find?_eq_none]
      intro t ht
      have := (List.mem_filter.1 ht).2
      simpa using this
    rw [h1]
    simp [isOf]
  · rw [if_neg h]
    have h1 : (ts.filter (fun t => !isOf k i t)).find? (isOf k' i') = ts.find? (isOf k' i') := by
      rw [List.find?_filter]
      congr 1
      funext t
      cases e : isOf k' i' t
      · simp
      · simp only [isOf, decide_eq_true_eq] at e
        have : isOf k i t = false := by
          simp only [isOf, decide_eq_false_iff_not]
          intro e2
          exact h ⟨e2.1.symm.trans e.1, e2.2.symm.trans e.2⟩
        simp [this]
    rw [h1]
    have h2 : [(⟨k, i, a, l⟩ : Tm)].find? (isOf k' i') = none := by
      rw [List.find?_eq_none]
      intro t ht
      rw [List.mem_singleton] at ht
      subst ht
      simpa [isOf] using h
    rw [h2]
    simp

theorem sent_count (s : NetSt) (k i a l k' i' : Int) : sentS (countS s k i a l) k' i' = if k = k' ∧ i = i' then upToI (sentS s k i) a else sentS s k' i' := by
  unfold sentS countS
  simp only
  rw [find_put]
  split
  · rfl
  · rfl

theorem lost_count (s : NetSt) (k i a l k' i' : Int) : lostS (countS s k i a l) k' i' = if k = k' ∧ i = i' then upToI (lostS s k i) l else lostS s k' i' := by
  unfold lostS countS
  simp only
  rw [find_put]
  split
  · rfl
  · rfl

/-- Numbers that are counters' and ints, and no more on their way than may be. -/
structure Good (s : NetSt) : Prop where
  ok : ∀ x ∈ s.grams, GrOk x
  sent : ∀ k i, Cnt (sentS s k i)
  lost : ∀ k i, Cnt (lostS s k i)
  few : s.grams.length ≤ 600

theorem Good.count {s : NetSt} (h : Good s) (k i : Int) {a l : Int} (ha : Cnt a) (hl : Cnt l) : Good (countS s k i a l) := by
  refine ⟨h.ok, fun k' i' => ?_, fun k' i' => ?_, h.few⟩
  · rw [sent_count]
    split
    · exact upTo_cnt (h.sent _ _) ha
    · exact h.sent _ _
  · rw [lost_count]
    split
    · exact upTo_cnt (h.lost _ _) hl
    · exact h.lost _ _

theorem cnt_small {n : Nat} (h : n ≤ 1000000) : Cnt (n : Int) := ⟨by omega, by omega⟩

theorem Good.grams {s : NetSt} (h : Good s) {l : List Gr} (ho : ∀ x ∈ l, GrOk x) (hl : l.length ≤ 600) : Good { s with grams := l } := ⟨ho, h.sent, h.lost, hl⟩

theorem Good.lose {s : NetSt} (h : Good s) (k i : Int) : Good (loseS s k i) := by
  have hl := List.length_filter_le (fun x => !oldG k i (sentS s k i) x) s.grams
  have hf := h.few
  refine (h.grams (l := s.grams.filter (fun x => !oldG k i (sentS s k i) x)) (fun x hx => h.ok x (List.mem_filter.1 hx).1) (by omega)).count k i ⟨by omega, by omega⟩ ⟨by omega, by omega⟩

theorem tals_count (s : NetSt) (k i a l : Int) : (countS s k i a l).tals.length ≤ s.tals.length + 1 := by
  unfold countS dropT
  simp only [List.length_append, List.length_singleton]
  have := List.length_filter_le (fun t => !isOf k i t) s.tals
  omega

theorem tals_lose (s : NetSt) (k i : Int) : (loseS s k i).tals.length ≤ s.tals.length + 1 := tals_count _ _ _ _ _

/-- What a send makes of a net. -/
def sendS (s : NetSt) (k i : Int) (x : ByteArray) : NetSt :=
  let s2 := loseS (countS s k i 1 0) k i
  if isCut s2.cuts k i || decide (600 ≤ s2.grams.length) then countS s2 k i 0 1 else { s2 with grams := s2.grams ++ [⟨k, i, x, sentS s2 k i⟩] }

theorem Good.send {s : NetSt} (h : Good s) {k i : Int} (hk : In64 k) (hi : In64 i) (x : ByteArray) : Good (sendS s k i x) := by
  have h2 := ((h.count k i (a := 1) (l := 0) ⟨by omega, by omega⟩ ⟨by omega, by omega⟩).lose k i)
  unfold sendS
  simp only
  split
  · exact h2.count k i ⟨by omega, by omega⟩ ⟨by omega, by omega⟩
  · rename_i hc
    refine h2.grams (fun y hy => ?_) ?_
    · rcases List.mem_append.1 hy with hy | hy
      · exact h2.ok y hy
      · rw [List.mem_singleton] at hy
        subst hy
        exact ⟨hk, hi, h2.sent _ _⟩
    · simp at hc
      simp
      omega

theorem tals_send (s : NetSt) (k i : Int) (x : ByteArray) : (sendS s k i x).tals.length ≤ s.tals.length + 3 := by
  have h1 := tals_count s k i 1 0
  have h2 := tals_lose (countS s k i 1 0) k i
  have h3 := tals_count (loseS (countS s k i 1 0) k i) k i 0 1
  unfold sendS
  simp only
  split
  · omega
  · simp only
    omega

end Go.Proofs.Ytegofkpiipomfaa
