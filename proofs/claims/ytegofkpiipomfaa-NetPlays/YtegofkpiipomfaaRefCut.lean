/- The contracts of the document's Counts and cut. -/
import Derived.Test.YtegofkpiipomfaaRefOps
import Derived.Deep.QuietTactic
import Derived.BigQuiet
namespace Go.Proofs.Ytegofkpiipomfaa
open Go.RowKit

section
variable {T : Nat → Prop} {w : World} {r : Nat} {s : RefSt}

set_option maxHeartbeats 1000000 in
set_option maxRecDepth 100000 in
theorem refCounts_any (h : RefAt T w r s) (hU : WU s.ways) (k i : Int) (hroom : s.ways.length < 1000000) :
    Calls Try.prog 20 #[.pointer (some ⟨r, 0, none⟩), .int .i64 k, .int .i64 i] w fun e w' => e = .returned (.tuple #[.int .i64 (wyOf s.ways k i).sent, .int .i64 (wyOf s.ways k i).lost]) ∧ ∃ ways', RNext T w w' r { s with ways := ways' } ∧ Put s.ways ways' k i (wyOf s.ways k i) := by
  have Hw := hid (way_any h k i hroom)
  have HU := hid hU
  clear h hU
  go_enter Try.func20, Try.ntmps20
  go_wp2_with fail
  refine Hw.out.mono ?_
  rintro e w2 ⟨j, rfl, ⟨T', ⟨lv, wv, hN, hT⟩, hTT, hK⟩, hj⟩
  obtain ⟨g, c, rfl, hle, h63, hW⟩ := ways_some hN hj
  obtain ⟨_, _, a2, a3, _⟩ := hW.cells5 hj
  have c1 := hN.c1
  have hjl := (List.getElem?_eq_some_iff.1 hj).1
  have hjz : (j : Int) < ((wayS s.ways k i).length : Int) := by omega
  have fin : Hid (∀ q, ∃ ways', RNext T w (w2.drewN q) r { s with ways := ways' } ∧ Put s.ways ways' k i (wyOf s.ways k i)) := fun q => by
    refine ⟨wayS s.ways k i, ⟨T', ⟨lv, _, hN.same (fun _ _ => rfl), hT⟩, hTT, hK.drewN q⟩, wyOf_way _ _ _ _ _, fun k' i' _ => wyOf_way _ _ _ _ _, wu_way HU.out k i, ?_⟩
    unfold wayS
    split
    · omega
    · simp
  simp only at hle c1 a2 a3
  generalize (wayS s.ways k i).length = n at *
  clear hN hT hTT hK hW hj hjl Hw HU
  go_wp2
  go_quiet (fail)
  go_wp2
  go_ret2
  exact ⟨rfl, fin.out _⟩

end

/-- 'append' onto a row of datagrams of the call's own. -/
theorem append_own {w : World} {v : Value} {l : List Gr} (h : OwnR w 0 v l) (ad : Addr) (m c : Nat) (news : List Gr) (hl : news.length = m) (hc : ∀ j u, (rowCells news)[j]? = some u → w.cell? (ad.add j) = some u) (hroom : l.length + m ≤ 100000) :
    ∃ p cap w', (∀ ty, (Builtin.append_ #[27, 27] ty #[v, .slice (some ad) m c]).run Try.prog w = .ok (.slice p (l.length + m) cap) w') ∧ OwnR w' 0 (.slice p (l.length + m) cap) (l ++ news) ∧ w.grownBy w' v.ownBlock ∧ ((Value.slice p (l.length + m) cap).ownBlock = v.ownBlock ∨ (Value.slice p (l.length + m) cap).ownBlock = some w.heap.size) := by
  obtain ⟨i0, hi0, hz0, hz1, hz2⟩ := info_parts infoRef
  obtain ⟨v', w', h1, h2, h3, _, h5⟩ := run_append_own_at (P := Try.prog) w 0 27 0 67 i0 (.agg #[.int .i64 0, .int .i64 0, .string ⟨#[]⟩, .int .i64 0]) 4 40 Try.underlying27 hi0 hz0 hz1 hz2 rfl (by decide) v l.length (rowCells l) h ad m c (rowCells news) (by rw [rowCells_length, hl]) hc (rowCells_oneCell news) (by unfold maxLen; omega) (by omega) (Nat.zero_le _)
  have h2' : OwnR w' 0 v' (l ++ news) := by
    unfold OwnR
    rw [rowCells_append, List.length_append, hl]
    exact h2
  obtain ⟨p, cap, rfl⟩ : ∃ p cap, v' = .slice p (l.length + m) cap := by
    rcases h2.2 with ⟨e, e2⟩ | ⟨g, cap, _, e, _⟩
    · exact ⟨none, 0, by rw [e2]; exact e⟩
    · exact ⟨_, cap, e⟩
  exact ⟨p, cap, w', fun ty => h1, h2', h3, h5⟩

/-- The row is another one; its cell is written. -/
theorem RefIn.rerow {w w2 : World} {r : Nat} {lv lv' wv : Value} {s : RefSt} {l : List Gr} (h : RefIn w r lv wv s) (hk : Kept (fun _ => False) w w2) (hown : OwnR w2 0 lv' l) (hn : ∀ i, lv'.ownBlock = some i → w.heap.size ≤ i) :
    RefIn (w2.setCell ⟨r, 0, none⟩ lv') r lv' wv { s with grams := l } := by
  have h0 := hk.block r (h.lt (Or.inl rfl)) id
  have hr := h.lt (i := r) (Or.inl rfl)
  have hne : lv'.ownBlock ≠ some r := fun e => by have := hn r e; omega
  refine ⟨World.cell?_setCell_same _ _ _ ((World.cell?_of_block h0).trans h.c0), (World.cell?_setCell_other _ _ _ _ (by simp)).trans ((World.cell?_of_block h0).trans h.c1), fun i => (World.frozen?_setCell _ _ _ _).trans ((World.frozen?_of_block h0).trans (h.f i)), hown.same (fun i hi => Below.heap_setCell w2 _ _ i (fun e => hne (by rw [hi, e]))), h.ways.same (fun i hi => (Below.heap_setCell w2 _ _ i (fun e => h.nw (by rw [hi, e]))).trans (hk.block i (h.lt (Or.inr (Or.inr hi))) id)), hne, h.nw, fun i hi e => ?_⟩
  have h1 := hn i hi
  have h2 := h.lt (i := i) (Or.inr (Or.inr e))
  omega

set_option maxHeartbeats 1000000 in
set_option maxRecDepth 100000 in
theorem refcut_any {T : Nat → Prop} {w : World} {r : Nat} {s : RefSt} (h : RefAt T w r s) (j : Nat) (hj : j < s.grams.length) (hroom : s.grams.length ≤ 1000) :
    Calls Try.prog 33 #[.pointer (some ⟨r, 0, none⟩), .int .i64 (j : Int)] w fun e w' => e = .returned (.tuple #[]) ∧ RNext T w w' r { s with grams := s.grams.eraseIdx j } := by
  obtain ⟨lv, wv, hN, hT⟩ := h
  rcases hN.own.cases with ⟨_, e⟩ | ⟨g, cap, rfl, _, hr⟩
  · rw [e] at hj
    cases hj
  have hle := hr.le
  have h63 := hr.le63
  have hgl := hr.lt
  have hrl := hN.lt (Or.inl rfl)
  have htl : (s.grams.take j).length = j := by rw [List.length_take]; omega
  have hr0 : RowR w.drew g cap s.grams := hr.same rfl
  obtain ⟨p1, cap1, w1, hrun1, hown1, hgr1, hat1⟩ := append_own (OwnR.nil w.drew 0) ⟨g, 0, none⟩ j cap (s.grams.take j) htl (fun q u hu => by
    have hq := (List.getElem?_eq_some_iff.1 hu).1
    rw [rowCells_length, htl] at hq
    rw [Addr.add_lit, Nat.zero_add, ← hu, ← rowCells_take, List.getElem?_take_of_lt (by omega)]
    exact World.ownsRow.cellAt hr0 q (by omega)) (by simp; omega)
  simp only [List.length_nil, Nat.zero_add, List.nil_append] at hrun1 hown1 hat1
  have hk1 : Kept (fun _ => False) w w1 := (Kept.refl _ w).drew.grown hgr1 (fun q hq => by cases hq)
  have hr1 : RowR w1 g cap s.grams := hr.same (hk1.block g hgl id)
  have hb1 : ∀ q, (Value.slice p1 j cap1).ownBlock = some q → w.heap.size ≤ q := fun q hq => by
    rcases hat1 with h | h
    · rw [h] at hq
      cases hq
    · rw [h] at hq
      exact Nat.le_of_eq (Option.some.inj hq)
  obtain ⟨p2, cap2, w2, hrun2, hown2, hgr2, hat2⟩ := append_own hown1 ⟨g, if cap = j + 1 then 0 else (j + 1) * 4, none⟩ (s.grams.length - (j + 1)) (cap - (j + 1)) (s.grams.drop (j + 1)) (by rw [List.length_drop]) (fun q u hu => by
    have hq := (List.getElem?_eq_some_iff.1 hu).1
    rw [rowCells_length, List.length_drop] at hq
    have hne : ¬ (cap = j + 1) := by omega
    rw [if_neg hne, Addr.add_lit, ← hu, ← rowCells_drop, List.getElem?_drop]
    exact World.ownsRow.cellAt hr1 _ (by omega)) (by rw [htl]; omega)
  rw [htl] at hrun2 hown2 hat2
  rw [← erase_split] at hown2
  have hk2 : Kept (fun _ => False) w w2 := hk1.grown hgr2 (fun q hq => Or.inl (hb1 q hq))
  have hb2 : ∀ q, (Value.slice p2 (j + (s.grams.length - (j + 1))) cap2).ownBlock = some q → w.heap.size ≤ q := fun q hq => by
    rcases hat2 with h | h
    · exact hb1 q (h ▸ hq)
    · rw [h] at hq
      have := Option.some.inj hq
      have := hk1.size
      omega
  have fin : Hid (RNext T w (w2.setCell ⟨r, 0, none⟩ (.slice p2 (j + (s.grams.length - (j + 1))) cap2)) r { s with grams := s.grams.eraseIdx j }) := by
    have hR := hN.rerow hk2 hown2 hb2
    refine ⟨_, ⟨_, _, hR, fun _ => Iff.rfl⟩, fun q hq => ?_, (hk2.mono (fun _ _ h => h.elim)).setCell (Or.inr ((hT r).2 (Or.inl rfl))) _⟩
    rcases hq with hq | hq | hq
    · exact Or.inl ((hT q).2 (Or.inl hq))
    · exact Or.inr (hb2 q hq)
    · exact Or.inl ((hT q).2 (Or.inr (Or.inr hq)))
  have c0 := hN.c0
  have c01 := (hk1.cell (p := ⟨r, 0, none⟩) hrl id).trans c0
  have c02 := (hk2.cell (p := ⟨r, 0, none⟩) hrl id).trans c0
  have f02 := (hk2.frozen (p := ⟨r, 0, none⟩) hrl id).trans (hN.f 0)
  clear hr hr0 hr1 hN hT hown1 hown2 hgr1 hgr2 hat1 hat2 hk1 hk2 hb1 hb2 htl
  generalize s.grams.length = n at *
  generalize j + (n - (j + 1)) = nq at hrun2 fin
  have hw1 : IntKind.i64.wrap ((j : Int) + 1) = (j : Int) + 1 := by rw [IntKind.wrap_i64]; omega
  have hb1 : j ≤ cap := by omega
  have hb2 : (j : Int) ≤ (j : Int) + 1 := by omega
  have hb3 : (j : Int) + 1 ≤ (n : Int) := by omega
  have hb4 : (0 : Int) ≤ (j : Int) + 1 := by omega
  have hb5 : ((j : Int) + 1).toNat = j + 1 := by omega
  have hb6 : j + 1 ≤ n := hj
  by_cases hcap : cap = j + 1
  · rw [if_pos hcap] at hrun2
    subst hcap
    rw [Nat.sub_self] at hrun2
    go_enter Try.func33, Try.ntmps33
    go_region_law (first
      | (refine step_append_run rfl (.const (.slice none 0 0)) (.tmp 10) 27 rfl (.slice none 0 0) (.slice (some ⟨g, 0, none⟩) j (j + 1)) rfl (by simp [Act.eval, Act.put]) (hrun1 _) ?_)
      | (refine step_append_run rfl (.tmp 11) (.tmp 18) 27 rfl (.slice p1 j cap1) (.slice (some ⟨g, 0, none⟩) (n - (j + 1)) 0) (by simp [Act.eval, Act.put]) (by simp [Act.eval, Act.put]; omega) (hrun2 _) ?_))
    all_goals go_wp2
    all_goals go_end0
    all_goals exact ⟨rfl, fin.out⟩
  · rw [if_neg hcap] at hrun2
    go_enter Try.func33, Try.ntmps33
    go_region_law (first
      | (refine step_append_run rfl (.const (.slice none 0 0)) (.tmp 10) 27 rfl (.slice none 0 0) (.slice (some ⟨g, 0, none⟩) j cap) rfl (by simp [Act.eval, Act.put]) (hrun1 _) ?_)
      | (refine step_append_run rfl (.tmp 11) (.tmp 18) 27 rfl (.slice p1 j cap1) (.slice (some ⟨g, (j + 1) * 4, none⟩) (n - (j + 1)) (cap - (j + 1))) (by simp [Act.eval, Act.put]) (by simp [Act.eval, Act.put]) (hrun2 _) ?_))
    all_goals go_wp2
    all_goals go_end0
    all_goals exact ⟨rfl, fin.out⟩

end Go.Proofs.Ytegofkpiipomfaa
