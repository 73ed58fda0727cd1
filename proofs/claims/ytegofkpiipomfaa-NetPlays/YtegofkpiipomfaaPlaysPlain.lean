/- The two nets, side by side, as plain data: what they agree on, and that each step keeps it. -/
import Derived.Test.YtegofkpiipomfaaRefSend
import Derived.Test.YtegofkpiipomfaaRefSendLong
import Derived.Test.YtegofkpiipomfaaRefTwice
import Derived.Test.YtegofkpiipomfaaRefSpoil
import Derived.Test.YtegofkpiipomfaaSpoil
import Derived.Test.YtegofkpiipomfaaCut
namespace Go.Proofs.Ytegofkpiipomfaa
open Go.RowKit

/-- Both nets have come so far by at most n steps. -/
structure Sy (s : NetSt) (t : RefSt) (n : Nat) : Prop where
  good : Good s
  gr : t.grams = s.grams
  wy : ∀ k i, wyOf t.ways k i = ⟨k, i, sentS s k i, lostS s k i, isCut s.cuts k i⟩
  wu : WU t.ways
  wl : t.ways.length ≤ n
  tl : s.tals.length ≤ 3 * n
  cl : s.cuts.length ≤ n
  sn : ∀ k i, sentS s k i ≤ n
  ls : ∀ k i, lostS s k i ≤ 700 * n
  dt : ∀ g ∈ s.grams, g.data.size ≤ 1514

theorem sy0 : Sy s0 ⟨[], []⟩ 0 := by
  refine ⟨good0, rfl, fun k i => ?_, List.Pairwise.nil, Nat.le_refl _, Nat.le_refl _, Nat.le_refl _, fun k i => ?_, fun k i => ?_, fun g hg => (by cases hg)⟩
  · simp [wyOf, s0, sentS, lostS, findT, isCut, sentOf, lostOf]
  · simp [s0, sentS, findT, sentOf]
  · simp [s0, lostS, findT, lostOf]

section
variable {s : NetSt} {t : RefSt} {n : Nat}

theorem Sy.mono (h : Sy s t n) {m : Nat} (hm : n ≤ m) : Sy s t m :=
  ⟨h.good, h.gr, h.wy, h.wu, by have := h.wl; omega, by have := h.tl; omega, by have := h.cl; omega, fun k i => by have := h.sn k i; omega, fun k i => by have := h.ls k i; omega, h.dt⟩

/-- Only the datagrams are others. -/
theorem Sy.grams (h : Sy s t n) {l : List Gr} (ho : ∀ x ∈ l, GrOk x) (hl : l.length ≤ 600) (hd : ∀ x ∈ l, x.data.size ≤ 1514) : Sy { s with grams := l } { t with grams := l } n :=
  ⟨h.good.grams ho hl, rfl, h.wy, h.wu, h.wl, h.tl, h.cl, h.sn, h.ls, hd⟩

theorem Sy.erase (h : Sy s t n) (j : Nat) : Sy { s with grams := s.grams.eraseIdx j } { t with grams := t.grams.eraseIdx j } n := by
  rw [h.gr]
  exact h.grams (fun x hx => h.good.ok x (List.mem_of_mem_eraseIdx hx)) (Nat.le_trans (List.length_eraseIdx_le _ _) h.good.few) (fun x hx => h.dt x (List.mem_of_mem_eraseIdx hx))

theorem Sy.put (h : Sy s t n) {ways' : List Wy} {k i : Int} (hP : Put t.ways ways' k i (wyOf t.ways k i)) : Sy s { t with ways := ways' } (n + 1) := by
  have h' := h.mono (Nat.le_succ n)
  refine ⟨h'.good, h'.gr, fun k' i' => ?_, hP.wu, by have := hP.len; have := h.wl; show ways'.length ≤ n + 1; omega, h'.tl, h'.cl, h'.sn, h'.ls, h'.dt⟩
  show wyOf ways' k' i' = _
  by_cases e : k' = k ∧ i' = i
  · obtain ⟨rfl, rfl⟩ := e
    rw [hP.here]
    exact h.wy _ _
  · rw [hP.else_ k' i' e]
    exact h.wy _ _

theorem Sy.drop (h : Sy s t n) (hn : n ≤ 100000) {j : Nat} {ways' : List Wy} (hP : Put t.ways ways' (getG s.grams j).src (getG s.grams j).dst { wyOf t.ways (getG s.grams j).src (getG s.grams j).dst with lost := (wyOf t.ways (getG s.grams j).src (getG s.grams j).dst).lost + 1 }) :
    Sy (countS { s with grams := s.grams.eraseIdx j } (getG s.grams j).src (getG s.grams j).dst 0 1) ⟨t.grams.eraseIdx j, ways'⟩ (n + 1) := by
  generalize (getG s.grams j).src = k at *
  generalize (getG s.grams j).dst = i at *
  have h1 := h.erase j
  have hl := h.ls k i
  have hl0 := (h.good.lost k i).1
  have hs := h.sn k i
  have hs0 := (h.good.sent k i).1
  have hlS : ∀ k' i', lostS (countS { s with grams := s.grams.eraseIdx j } k i 0 1) k' i' = if k = k' ∧ i = i' then lostS s k i + 1 else lostS s k' i' := fun k' i' => by
    rw [lost_count]
    have e : lostS { s with grams := s.grams.eraseIdx j } k i = lostS s k i := rfl
    rw [e, upTo_small (by omega)]
    rfl
  have hsS : ∀ k' i', sentS (countS { s with grams := s.grams.eraseIdx j } k i 0 1) k' i' = sentS s k' i' := fun k' i' => by
    rw [sent_count]
    have e : sentS { s with grams := s.grams.eraseIdx j } k i = sentS s k i := rfl
    rw [e, upTo_small (by omega)]
    split
    · rename_i e2
      rw [e2.1, e2.2]
      omega
    · rfl
  refine ⟨h1.good.count k i ⟨by omega, by omega⟩ ⟨by omega, by omega⟩, h1.gr, fun k' i' => ?_, hP.wu, by have := hP.len; have := h.wl; show ways'.length ≤ n + 1; omega, ?_, ?_, fun k' i' => ?_, fun k' i' => ?_, h1.dt⟩
  · show wyOf ways' k' i' = _
    rw [hlS, hsS]
    by_cases e : k' = k ∧ i' = i
    · obtain ⟨rfl, rfl⟩ := e
      rw [hP.here, h.wy, if_pos ⟨rfl, rfl⟩]
      rfl
    · rw [hP.else_ k' i' e, h.wy, if_neg (fun e2 => e ⟨e2.1.symm, e2.2.symm⟩)]
      rfl
  · have := tals_count { s with grams := s.grams.eraseIdx j } k i 0 1
    have e : ({ s with grams := s.grams.eraseIdx j } : NetSt).tals = s.tals := rfl
    rw [e] at this
    have := h.tl
    omega
  · have := h.cl
    show s.cuts.length ≤ n + 1
    omega
  · rw [hsS]
    have := h.sn k' i'
    omega
  · rw [hlS]
    have := h.ls k' i'
    split <;> omega

theorem Sy.twice (h : Sy s t n) {j : Nat} (hj : j < s.grams.length) (h6 : s.grams.length < 600) : Sy (twiceS s j) { t with grams := insG t.grams (j + 1) (getG t.grams j) } n := by
  rw [h.gr]
  have hm : ∀ x ∈ insG s.grams (j + 1) (getG s.grams j), x ∈ s.grams := fun x hx => by
    unfold insG at hx
    rw [List.mem_append, List.mem_cons] at hx
    rcases hx with h1 | rfl | h1
    · exact List.mem_of_mem_take h1
    · exact List.mem_of_getElem? (getG_at hj)
    · exact List.mem_of_mem_drop h1
  exact h.grams (fun x hx => h.good.ok x (hm x hx)) (by rw [insG_length _ _ _ hj]; omega) (fun x hx => h.dt x (hm x hx))

theorem Sy.spoil (h : Sy s t n) {j : Nat} (hj : j < s.grams.length) (q : Nat) (y : UInt8) : Sy (spoilS s j q y) { t with grams := t.grams.set j { getG t.grams j with data := spoilB (getG t.grams j).data q y } } n := by
  rw [h.gr]
  have hg : getG s.grams j ∈ s.grams := List.mem_of_getElem? (getG_at hj)
  have hm : ∀ x ∈ s.grams.set j { getG s.grams j with data := spoilB (getG s.grams j).data q y }, x ∈ s.grams ∨ x = { getG s.grams j with data := spoilB (getG s.grams j).data q y } := fun x hx => List.mem_or_eq_of_mem_set hx
  refine h.grams (fun x hx => ?_) (by rw [List.length_set]; exact h.good.few) (fun x hx => ?_)
  · rcases hm x hx with h1 | rfl
    · exact h.good.ok x h1
    · have := h.good.ok _ hg
      exact ⟨this.src, this.dst, this.turn⟩
  · rcases hm x hx with h1 | rfl
    · exact h.dt x h1
    · have := h.dt _ hg
      have e : (spoilB (getG s.grams j).data q y).size = (getG s.grams j).data.size := spoilB_size _ _ _
      show (spoilB (getG s.grams j).data q y).size ≤ 1514
      omega

theorem isCut_drop (cs : List (Int × Int)) (k i k' i' : Int) : isCut (dropC cs k i) k' i' = (isCut cs k' i' && !decide (k' = k ∧ i' = i)) := by
  unfold isCut dropC
  by_cases e : k' = k ∧ i' = i
  · obtain ⟨rfl, rfl⟩ := e
    simp
  · simp only [List.mem_filter, e, decide_false, Bool.not_false, Bool.and_true, Prod.mk.injEq]
    simp

theorem Sy.cut (h : Sy s t n) {k i : Int} {on : Bool} {ways' : List Wy} (hP : Put t.ways ways' k i { wyOf t.ways k i with cut := on }) : Sy (cutS s k i on) { t with ways := ways' } (n + 1) := by
  have h' := h.mono (Nat.le_succ n)
  have hc : ∀ k' i', isCut (cutS s k i on).cuts k' i' = if k' = k ∧ i' = i then on else isCut s.cuts k' i' := fun k' i' => by
    unfold cutS
    cases on
    · show isCut (dropC s.cuts k i) k' i' = _
      rw [isCut_drop]
      by_cases e : k' = k ∧ i' = i
      · rw [if_pos e, decide_eq_true e]; simp
      · rw [if_neg e, decide_eq_false e]; simp
    · show isCut (dropC s.cuts k i ++ [(k, i)]) k' i' = _
      have e : isCut (dropC s.cuts k i ++ [(k, i)]) k' i' = (isCut (dropC s.cuts k i) k' i' || decide (k' = k ∧ i' = i)) := by
        unfold isCut
        simp [List.mem_append, Prod.mk.injEq]
      rw [e, isCut_drop]
      by_cases e : k' = k ∧ i' = i
      · rw [if_pos e, decide_eq_true e]; simp
      · rw [if_neg e, decide_eq_false e]; simp
  refine ⟨⟨h'.good.ok, h'.good.sent, h'.good.lost, h'.good.few⟩, h'.gr, fun k' i' => ?_, hP.wu, by have := hP.len; have := h.wl; show ways'.length ≤ n + 1; omega, h'.tl, ?_, h'.sn, h'.ls, h'.dt⟩
  · show wyOf ways' k' i' = _
    rw [hc]
    by_cases e : k' = k ∧ i' = i
    · obtain ⟨rfl, rfl⟩ := e
      rw [hP.here, if_pos ⟨rfl, rfl⟩, h.wy]
      rfl
    · rw [hP.else_ k' i' e, if_neg e, h.wy]
      rfl
  · have h1 : (dropC s.cuts k i).length ≤ s.cuts.length := List.length_filter_le _ _
    have h2 := h.cl
    unfold cutS
    cases on
    · show (dropC s.cuts k i).length ≤ n + 1
      omega
    · show (dropC s.cuts k i ++ [(k, i)]).length ≤ n + 1
      rw [List.length_append]
      show _ + 1 ≤ _
      omega

theorem gone_rest (k i se : Int) : ∀ l : List Gr, goneN k i se l = (l.length : Int) - ((restG k i se l).length : Int)
  | [] => rfl
  | x :: l => by
    have ih := gone_rest k i se l
    unfold goneN restG at *
    cases hx : oldG k i se x <;> simp [hx] <;> omega

theorem Sy.send (h : Sy s t n) (hn : n ≤ 100000) {k i : Int} (hk : In64 k) (hi : In64 i) {x : ByteArray} (hx : x.size ≤ 1514) {ways' : List Wy} (hP : Put t.ways ways' k i (sendY (wyOf t.ways k i) k i t.grams)) :
    Sy (sendS s k i x) ⟨sendG (wyOf t.ways k i) k i x t.grams, ways'⟩ (n + 1) := by
  have hS : Small s k i := ⟨by have := h.sn k i; omega, by have := h.ls k i; omega⟩
  rw [h.wy, h.gr] at hP ⊢
  have hsh : shutR ⟨k, i, sentS s k i, lostS s k i, isCut s.cuts k i⟩ k i s.grams = shutG s k i := rfl
  have hle : restG k i (sentS s k i + 1) s.grams = leftG s k i := rfl
  have hlen := left_le s k i
  have hfew := h.good.few
  have hgr : (sendS s k i x).grams = sendG ⟨k, i, sentS s k i, lostS s k i, isCut s.cuts k i⟩ k i x s.grams := by
    rw [send_grams hS]
    unfold sendG
    rw [hsh]
    rfl
  refine ⟨h.good.send hk hi x, hgr.symm, fun k' i' => ?_, hP.wu, by have := hP.len; have := h.wl; show ways'.length ≤ n + 1; omega, ?_, ?_, fun k' i' => ?_, fun k' i' => ?_, fun g hg => ?_⟩
  · show wyOf ways' k' i' = _
    rw [send_sent hS, send_lost h.good hS, send_cuts hS]
    by_cases e : k' = k ∧ i' = i
    · obtain ⟨rfl, rfl⟩ := e
      rw [hP.here, if_pos ⟨rfl, rfl⟩, if_pos ⟨rfl, rfl⟩]
      unfold sendY
      rw [hsh, gone_rest]
      rfl
    · rw [hP.else_ k' i' e, h.wy, if_neg (fun e2 => e ⟨e2.1.symm, e2.2.symm⟩), if_neg (fun e2 => e ⟨e2.1.symm, e2.2.symm⟩)]
  · have := tals_send s k i x
    have := h.tl
    omega
  · rw [send_cuts hS]
    have := h.cl
    omega
  · rw [send_sent hS]
    have := h.sn k' i'
    have := h.sn k i
    split <;> omega
  · rw [send_lost h.good hS]
    have := h.ls k' i'
    have := h.ls k i
    split
    · split <;> omega
    · omega
  · rw [send_grams hS] at hg
    have hl : ∀ g ∈ leftG s k i, g.data.size ≤ 1514 := fun g hg => h.dt g (List.mem_filter.1 hg).1
    split at hg
    · exact hl g hg
    · rcases List.mem_append.1 hg with h1 | h1
      · exact hl g h1
      · simp at h1
        rw [h1]
        exact hx
end
end Go.Proofs.Ytegofkpiipomfaa
