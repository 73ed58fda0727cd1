/- The contract of Net.loseOld. -/
import Derived.Test.YtegofkpiipomfaaDelFunc
namespace Go.Proofs.Ytegofkpiipomfaa
open Go.RowKit

/-- What is too old is lost. -/
def loseS (s : NetSt) (k i : Int) : NetSt :=
  let l := s.grams.filter (fun x => !oldG k i (sentS s k i) x)
  countS { s with grams := l } k i 0 ((s.grams.length : Int) - (l.length : Int))

/-- The row is another one, in the old one's block or in a new one; its cell is written. -/
theorem NetIn.rerow {w w2 : World} {b : Nat} {gv gv' : Value} {tm cm : Option Nat} {s : NetSt} {l : List Gr} (h : NetIn w b gv tm cm s) (hk : Kept (fun i => gv.ownBlock = some i) w w2) (hown : OwnG w2 0 gv' l) (hn : ∀ i, gv'.ownBlock = some i → gv.ownBlock = some i ∨ w.heap.size ≤ i) :
    NetIn (w2.setCell ⟨b, 0, none⟩ gv') b gv' tm cm { s with grams := l } := by
  have hb : ∀ i, ofNet b (.slice none 0 0) tm cm i → w2.heap[i]? = w.heap[i]? ∧ i < w.heap.size ∧ gv'.ownBlock ≠ some i := fun i hi => by
    have hi' : ofNet b gv tm cm i := hi.elim Or.inl (fun h => h.elim (fun h => by cases h) (fun h => Or.inr (Or.inr h)))
    have hlt := h.lt hi'
    have hng : gv.ownBlock ≠ some i := fun e => by
      rcases hi with hi | hi | hi | hi
      · exact h.ng (by rw [e, hi])
      · cases hi
      · exact h.gt i e hi
      · exact h.gc i e hi
    refine ⟨hk.block i hlt hng, hlt, fun e => ?_⟩
    rcases hn i e with h1 | h1
    · exact hng h1
    · omega
  have h0 := (hb b (Or.inl rfl)).1
  have hne : ∀ i, ofNet b (.slice none 0 0) tm cm i → gv'.ownBlock ≠ some i := fun i hi => (hb i hi).2.2
  have c0 : w2.cell? ⟨b, 0, none⟩ = some gv := (World.cell?_of_block h0).trans h.c0
  exact ⟨World.cell?_setCell_same _ _ _ c0, (World.cell?_setCell_other _ _ _ _ (by simp)).trans ((World.cell?_of_block h0).trans h.c1), (World.cell?_setCell_other _ _ _ _ (by simp)).trans ((World.cell?_of_block h0).trans h.c2), fun i => (World.frozen?_setCell _ _ _ _).trans ((World.frozen?_of_block h0).trans (h.f i)),
    hown.same (fun i hi => Below.heap_setCell w2 _ _ i (fun e => hne b (Or.inl rfl) (by rw [hi, e]))), h.ts.same (fun i hi => (Below.heap_setCell w2 _ _ i (fun e => h.nt (by rw [hi, e]))).trans (hb i (Or.inr (Or.inr (Or.inl hi)))).1), h.cs.same (fun i hi => (Below.heap_setCell w2 _ _ i (fun e => h.nc (by rw [hi, e]))).trans (hb i (Or.inr (Or.inr (Or.inr hi)))).1),
    hne b (Or.inl rfl), h.nt, h.nc, fun i hi e => hne i (Or.inr (Or.inr (Or.inl e))) hi, fun i hi e => hne i (Or.inr (Or.inr (Or.inr e))) hi, h.tc⟩

theorem del_any {w : World} (pb sb : Nat) {p : Option Addr} {c : Nat} {l : List Gr} {k i sent : Int} (hk : In64 k) (hi : In64 i) (hs : Cnt sent) (hl : ∀ x ∈ l, GrOk x) (hown : OwnG w 0 (.slice p l.length c) l) (hb : Boxes w pb sb k i sent)
    (hp : (Value.slice p l.length c).ownBlock ≠ some pb) (hsb : (Value.slice p l.length c).ownBlock ≠ some sb) :
    Calls Try.prog 38 #[.slice p l.length c, lostFn pb sb] w fun e w' => ∃ p' c', e = .returned (.slice p' (l.filter (fun x => !oldG k i sent x)).length c') ∧ OwnG w' 0 (.slice p' (l.filter (fun x => !oldG k i sent x)).length c') (l.filter (fun x => !oldG k i sent x)) ∧ (Value.slice p' (l.filter (fun x => !oldG k i sent x)).length c').ownBlock = (Value.slice p l.length c).ownBlock ∧ Kept (fun i => (Value.slice p l.length c).ownBlock = some i) w w' := by
  rcases hown.cases with ⟨e, rfl⟩ | ⟨g, cap, e, _, hr⟩
  · simp only [Value.slice.injEq] at e
    obtain ⟨rfl, _, rfl⟩ := e
    refine (delete_nil pb sb w).mono ?_
    rintro e w' ⟨rfl, rfl⟩
    exact ⟨none, 0, rfl, OwnG.nil _ _, rfl, Kept.refl _ _⟩
  · simp only [Value.slice.injEq, true_and] at e
    obtain ⟨rfl, rfl⟩ := e
    refine (delete_row g c pb sb l hk hi hs hl (fun e => hp (by rw [e]; rfl)) (fun e => hsb (by rw [e]; rfl)) w hr hb).mono ?_
    rintro e w' ⟨rfl, hr', hk'⟩
    exact ⟨_, _, rfl, hr'.own (Nat.zero_le _), rfl, hk'.mono (fun i _ h => by rw [h]; rfl)⟩

/-- The two boxes. -/
def Boxed2 (w wx : World) (b : Nat) (gv : Value) (tm cm : Option Nat) (s : NetSt) (k i : Int) (sb : Nat) : Prop :=
  NetIn wx b gv tm cm s ∧ Kept (fun _ => False) w wx ∧ Boxes wx w.heap.size sb k i (sentS s k i) ∧ w.heap.size ≤ sb ∧ w.heap.size < wx.heap.size

section
variable {S : Nat → Prop} {w : World} {b : Nat} {s : NetSt}

set_option maxHeartbeats 1000000 in
set_option maxRecDepth 100000 in
theorem loseOld_in {gv : Value} {tm cm : Option Nat} (h1 : NetIn w b gv tm cm s) {k i : Int} (hk : In64 k) (hi : In64 i) (hs : Cnt (sentS s k i)) (hl : Cnt (lostS s k i)) (hg : ∀ x ∈ s.grams, GrOk x) (hroom : s.tals.length < 1000000) :
    Calls Try.prog 27 #[.pointer (some ⟨b, 0, none⟩), keyV k i] w fun e w' => e = .returned (.tuple #[]) ∧ ∃ gv' mb, NetIn w' b gv' (some mb) cm (loseS s k i) ∧ (tm = some mb ∨ w.heap.size ≤ mb) ∧ gv'.ownBlock = gv.ownBlock ∧ Kept (ofNet b gv tm cm) w w' := by
  obtain ⟨p, c, rfl⟩ := slice_of_net h1
  have H1 := hid h1
  have hne := h1.lt (Or.inl rfl)
  have HK : Hid (In64 k ∧ In64 i ∧ Cnt (sentS s k i) ∧ Cnt (lostS s k i) ∧ (∀ x ∈ s.grams, GrOk x) ∧ s.tals.length < 1000000) := ⟨hk, hi, hs, hl, hg, hroom⟩
  have c0 := fun o => (h1.alloc o).c0
  have c0' := fun o o' => ((h1.alloc o).alloc o').c0
  have c1 := fun o => (h1.alloc o).c1
  have c1' := fun o o' => ((h1.alloc o).alloc o').c1
  have hl1 : ∀ o, Sem.run Try.prog (Instr.lookup 32 (.map tm) (.agg #[.int .i64 k, .int .i64 i]) false) (w.alloc o).drew = _ := fun o => (h1.alloc o).drew.ts.look false hk hi
  have hl2 : ∀ o o', Sem.run Try.prog (Instr.lookup 32 (.map tm) (.agg #[.int .i64 k, .int .i64 i]) false) ((w.alloc o).alloc o').drew = _ := fun o o' => ((h1.alloc o).alloc o').drew.ts.look false hk hi
  simp only [Bool.false_eq_true, if_false] at hl1 hl2
  have es : sentOf (findT s.tals k i) = sentS s k i := rfl
  have el : lostOf (findT s.tals k i) = lostS s k i := rfl
  simp only [es, el] at hl1 hl2
  have hf := field0 (sentS s k i) (lostS s k i)
  clear es el h1 hk hi hs hl hg hroom
  unfold keyV
  go_enter Try.func27, Try.ntmps27
  go_upto_region 1 with fail
  go_cut [3, 4, 5] (fun v3 v4 v5 wx => ∃ sb, v3 = .pointer (some ⟨w.heap.size, 0, none⟩) ∧ v4 = .int .i64 (s.grams.length : Int) ∧ v5 = .pointer (some ⟨sb, 0, none⟩) ∧ Boxed2 w wx b (.slice p s.grams.length c) tm cm s k i sb)
  case first =>
    go_region
    all_goals (go_wp2; go_meet)
    all_goals refine ⟨_, rfl, rfl, rfl, ((H1.out.alloc _).alloc _).drew, (((Kept.refl _ w).alloc _).alloc _).drew, ⟨?_, ?_, ?_⟩, ?_, ?_⟩
    all_goals first | (go_simp; done) | (simp; done) | (simp; omega)
  case rest =>
    clear c0 c0' c1 c1' hl1 hl2 hf
    obtain ⟨sb, rfl, rfl, rfl, HB⟩ := hcut
    have hlt := HB.1.lt (Or.inl rfl)
    have hnp : (Value.slice p s.grams.length c).ownBlock ≠ some w.heap.size := fun e => by
      have h1 := H1.out.lt (i := w.heap.size) (Or.inr (Or.inl e))
      omega
    have hns : (Value.slice p s.grams.length c).ownBlock ≠ some sb := fun e => by
      have h1 := H1.out.lt (i := sb) (Or.inr (Or.inl e))
      have h2 := HB.2.2.2.1
      omega
    have Hd := hid (del_any w.heap.size sb HK.out.1 HK.out.2.1 HK.out.2.2.1 HK.out.2.2.2.2.1 HB.1.own HB.2.2.1 hnp hns)
    have c0 := HB.1.c0
    have HB' := hid HB
    have Hnp := hid hnp
    clear HB hnp hns
    unfold lostFn at Hd
    generalize hfl : s.grams.filter (fun x => !oldG k i (sentS s k i) x) = l' at Hd
    have Hfl := hid hfl
    clear hfl
    go_upto_region 2 with fail
    go_cut [24] (fun _ wx => ∃ p' c', NetIn wx b (.slice p' l'.length c') tm cm { s with grams := l' } ∧ (Value.slice p' l'.length c').ownBlock = (Value.slice p s.grams.length c).ownBlock ∧ Kept (ofNet b (.slice p s.grams.length c) tm cm) w wx ∧ wx.cell? ⟨w.heap.size, 0, none⟩ = some (.int .i64 k) ∧ wx.cell? ⟨w.heap.size, 1, none⟩ = some (.int .i64 i))
    case first =>
      go_wp2_with fail
      refine Hd.out.mono ?_
      rintro e w2 ⟨p', c', rfl, hown, hob, hk2⟩
      have hr := hid (HB'.out.1.rerow hk2 hown (fun i hi => Or.inl (hob ▸ hi)))
      have hcb : ¬ ((Value.slice p s.grams.length c).ownBlock = some b) := H1.out.ng
      have d0 := (hk2.cell (p := ⟨b, 0, none⟩) hlt hcb).trans c0
      have f0 := (hk2.frozen (p := ⟨b, 0, none⟩) hlt hcb).trans (HB'.out.1.f 0)
      have q0 := (hk2.cell (p := ⟨w.heap.size, 0, none⟩) HB'.out.2.2.2.2 Hnp.out).trans HB'.out.2.2.1.1
      have q1 := (hk2.cell (p := ⟨w.heap.size, 1, none⟩) HB'.out.2.2.2.2 Hnp.out).trans HB'.out.2.2.1.2.1
      have hK2 := hid ((HB'.out.2.1.mono (fun _ _ h => h.elim)).andThen (S := ofNet b (.slice p s.grams.length c) tm cm) hk2 (fun i _ h => Or.inr (Or.inl h)))
      have Hob := hid hob
      clear hown hob hk2
      go_wp2
      go_meet
      exact ⟨p', c', hr.out, Hob.out, hK2.out.setCell (Or.inr (Or.inl rfl)) _, (World.cell?_setCell_other _ _ _ _ (by simp)).trans q0, (World.cell?_setCell_other _ _ _ _ (by simp)).trans q1⟩
    case rest =>
      obtain ⟨p', c', hN, hob, hK2, q0, q1⟩ := hcut
      clear Hd c0 HB' Hnp
      have c0 := hN.c0
      have hle : l'.length ≤ s.grams.length := by rw [← Hfl.out]; exact List.length_filter_le _ _
      have h63 : s.grams.length ≤ 9223372036854775807 := by
        rcases H1.out.own.cases with ⟨_, e⟩ | ⟨g, cap, _, _, hr⟩
        · rw [e]; simp
        · exact Nat.le_trans hr.le hr.le63
      obtain ⟨hk, hi, hs, hl, hg, hroom⟩ := HK.out
      have Hc := hid (fun W (hW : NetIn W b (.slice p' l'.length c') tm cm { s with grams := l' }) => count_in (a := 0) (l := (s.grams.length : Int) - (l'.length : Int)) hW hk hi hs hl ⟨by omega, by omega⟩ ⟨by omega, by omega⟩ hroom)
      have HN := hid hN
      have HK2 := hid hK2
      have Hob := hid hob
      have hsub : IntKind.i64.wrap ((s.grams.length : Int) - (l'.length : Int)) = (s.grams.length : Int) - (l'.length : Int) := by rw [IntKind.wrap_i64]; omega
      unfold keyV at Hc
      clear hN hK2 hob hk hi hs hl hg hroom HK
      go_wp2
      go_region_with (go_at_call 26; refine (Hc.out _ HN.out.drew).mono ?_; rintro e w3 ⟨rfl, mb, hN3, hm3, hk3⟩)
      all_goals go_wp2
      all_goals go_end0
      all_goals
        refine ⟨rfl, _, mb, ?_, hm3.imp id (fun h => Nat.le_trans HK2.out.size h), Hob.out, HK2.out.drew.andThen hk3 (fun i _ hi => ?_)⟩
        · unfold loseS
          rw [Hfl.out]
          exact hN3
        · rcases hi with hi | hi | hi | hi
          · exact Or.inl hi
          · exact Or.inr (Or.inl (by rw [← Hob.out]; exact hi))
          · exact Or.inr (Or.inr (Or.inl hi))
          · exact Or.inr (Or.inr (Or.inr hi))

theorem loseOld_any (h : NetAt S w b s) {k i : Int} (hk : In64 k) (hi : In64 i) (hs : Cnt (sentS s k i)) (hl : Cnt (lostS s k i)) (hg : ∀ x ∈ s.grams, GrOk x) (hroom : s.tals.length < 1000000) :
    Calls Try.prog 27 #[.pointer (some ⟨b, 0, none⟩), keyV k i] w fun e w' => e = .returned (.tuple #[]) ∧ Next S w w' b (loseS s k i) := by
  obtain ⟨gv, tm, cm, h1, hS⟩ := h
  refine (loseOld_in h1 hk hi hs hl hg hroom).mono ?_
  rintro e w' ⟨rfl, gv', mb, h2, hm, hob, hkp⟩
  refine ⟨rfl, ofNet b gv' (some mb) cm, ⟨gv', some mb, cm, h2, fun _ => Iff.rfl⟩, fun i hi => ?_, hkp.mono (fun i _ hi => (hS i).2 hi)⟩
  rcases hi with hi | hi | hi | hi
  · exact Or.inl ((hS i).2 (Or.inl hi))
  · exact Or.inl ((hS i).2 (Or.inr (Or.inl (hob ▸ hi))))
  · cases hi
    exact hm.elim (fun h => Or.inl ((hS _).2 (Or.inr (Or.inr (Or.inl h))))) Or.inr
  · exact Or.inl ((hS i).2 (Or.inr (Or.inr (Or.inr hi))))

end
end Go.Proofs.Ytegofkpiipomfaa
