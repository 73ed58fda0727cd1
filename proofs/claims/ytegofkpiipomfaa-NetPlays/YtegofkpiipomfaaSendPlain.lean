/- What a send makes of a net, told by its parts. -/
import Derived.Test.YtegofkpiipomfaaCut
namespace Go.Proofs.Ytegofkpiipomfaa

theorem upTo_small {n m : Int} (h : n + m ≤ 9223372036854775807) : upToI n m = n + m := by
  unfold upToI
  rw [if_pos (by omega)]

/-- Those of a pair that a send leaves. -/
def leftG (s : NetSt) (k i : Int) : List Gr := s.grams.filter (fun y => !oldG k i (sentS s k i + 1) y)
/-- Is what is sent lost? -/
def shutG (s : NetSt) (k i : Int) : Bool := isCut s.cuts k i || decide (600 ≤ (leftG s k i).length)

structure Small (s : NetSt) (k i : Int) : Prop where
  sent : sentS s k i ≤ 1000000000
  lost : lostS s k i ≤ 1000000000

theorem sent1 {s : NetSt} {k i : Int} (hS : Small s k i) : sentS (countS s k i 1 0) k i = sentS s k i + 1 := by
  rw [sent_count, if_pos ⟨rfl, rfl⟩, upTo_small (by have := hS.sent; omega)]
theorem left_le (s : NetSt) (k i : Int) : (leftG s k i).length ≤ s.grams.length := List.length_filter_le _ _
theorem lose_grams {s : NetSt} {k i : Int} (hS : Small s k i) : (loseS (countS s k i 1 0) k i).grams = leftG s k i := by
  unfold loseS leftG
  simp only
  rw [sent1 hS]
  rfl
theorem lose_eq {s : NetSt} {k i : Int} (hS : Small s k i) : loseS (countS s k i 1 0) k i = countS { countS s k i 1 0 with grams := leftG s k i } k i 0 ((s.grams.length : Int) - ((leftG s k i).length : Int)) := by
  have h := lose_grams hS
  unfold loseS at h ⊢
  simp only at h ⊢
  have h' : (countS s k i 1 0).grams.filter (fun x => !oldG k i (sentS (countS s k i 1 0) k i) x) = leftG s k i := h
  rw [h']
  rfl
theorem lose_sent {s : NetSt} {k i : Int} (hS : Small s k i) (k' i' : Int) : sentS (loseS (countS s k i 1 0) k i) k' i' = if k = k' ∧ i = i' then sentS s k i + 1 else sentS s k' i' := by
  rw [lose_eq hS, sent_count]
  have e : ∀ a b, sentS { countS s k i 1 0 with grams := leftG s k i } a b = sentS (countS s k i 1 0) a b := fun _ _ => rfl
  rw [e, e, sent1 hS]
  split
  · exact (upTo_small (n := sentS s k i + 1) (m := 0) (by have := hS.sent; omega)).trans (by omega)
  · rename_i h
    rw [sent_count, if_neg h]
theorem send_eq {s : NetSt} {k i : Int} (hS : Small s k i) (x : ByteArray) : sendS s k i x = if shutG s k i then countS (loseS (countS s k i 1 0) k i) k i 0 1 else { loseS (countS s k i 1 0) k i with grams := leftG s k i ++ [⟨k, i, x, sentS s k i + 1⟩] } := by
  have e := lose_sent hS k i
  rw [if_pos ⟨rfl, rfl⟩] at e
  have h : sendS s k i x = if isCut s.cuts k i || decide (600 ≤ (loseS (countS s k i 1 0) k i).grams.length) then countS (loseS (countS s k i 1 0) k i) k i 0 1 else { loseS (countS s k i 1 0) k i with grams := (loseS (countS s k i 1 0) k i).grams ++ [⟨k, i, x, sentS (loseS (countS s k i 1 0) k i) k i⟩] } := rfl
  rw [h, e, lose_grams hS]
  rfl
theorem send_cuts {s : NetSt} {k i : Int} (hS : Small s k i) (x : ByteArray) : (sendS s k i x).cuts = s.cuts := by
  rw [send_eq hS]
  split <;> rfl
theorem send_grams {s : NetSt} {k i : Int} (hS : Small s k i) (x : ByteArray) : (sendS s k i x).grams = if shutG s k i then leftG s k i else leftG s k i ++ [⟨k, i, x, sentS s k i + 1⟩] := by
  rw [send_eq hS]
  split
  · exact lose_grams hS
  · rfl
theorem send_sent {s : NetSt} {k i : Int} (hS : Small s k i) (x : ByteArray) (k' i' : Int) : sentS (sendS s k i x) k' i' = if k = k' ∧ i = i' then sentS s k i + 1 else sentS s k' i' := by
  rw [send_eq hS]
  split
  · have e := lose_sent hS k i
    rw [if_pos ⟨rfl, rfl⟩] at e
    rw [sent_count, e, lose_sent hS k' i']
    split
    · rw [upTo_small (by have := hS.sent; omega)]
      omega
    · rfl
  · exact lose_sent hS k' i'


theorem lose_lost {s : NetSt} {k i : Int} (hG : Good s) (hS : Small s k i) (k' i' : Int) : lostS (loseS (countS s k i 1 0) k i) k' i' = if k = k' ∧ i = i' then lostS s k i + ((s.grams.length : Int) - ((leftG s k i).length : Int)) else lostS s k' i' := by
  have h1 := left_le s k i
  have h2 := hG.few
  have h3 := hS.lost
  rw [lose_eq hS, lost_count]
  have e : ∀ a b, lostS { countS s k i 1 0 with grams := leftG s k i } a b = lostS (countS s k i 1 0) a b := fun _ _ => rfl
  rw [e, e]
  split
  · have e1 : upToI (lostS s k i) 0 = lostS s k i := by rw [upTo_small (by omega)]; omega
    rw [lost_count, if_pos ⟨rfl, rfl⟩, e1, upTo_small (by omega)]
  · rename_i h
    rw [lost_count, if_neg h]

theorem send_lost {s : NetSt} {k i : Int} (hG : Good s) (hS : Small s k i) (x : ByteArray) (k' i' : Int) : lostS (sendS s k i x) k' i' = if k = k' ∧ i = i' then lostS s k i + ((s.grams.length : Int) - ((leftG s k i).length : Int)) + (if shutG s k i then 1 else 0) else lostS s k' i' := by
  have h1 := left_le s k i
  have h2 := hG.few
  have h3 := hS.lost
  rw [send_eq hS]
  split
  · have e := lose_lost hG hS k i
    rw [if_pos ⟨rfl, rfl⟩] at e
    rw [lost_count, e, lose_lost hG hS k' i']
    split
    · rw [upTo_small (by omega)]
    · rfl
  · have e : ∀ l a b, lostS { loseS (countS s k i 1 0) k i with grams := l } a b = lostS (loseS (countS s k i 1 0) k i) a b := fun _ _ _ => rfl
    rw [e, lose_lost hG hS]
    split
    · omega
    · rfl

end Go.Proofs.Ytegofkpiipomfaa
