/- The contract of Net.count. -/
import Derived.Test.YtegofkpiipomfaaNetSmall
import Derived.Deep.RegionHeld3
import Derived.Deep.DeepCutAuto
namespace Go.Proofs.Ytegofkpiipomfaa
open Go.RowKit

/-- A pair's counters, so much more. -/
def countS (s : NetSt) (k i a l : Int) : NetSt := { s with tals := dropT s.tals k i ++ [⟨k, i, upToI (sentS s k i) a, upToI (lostS s k i) l⟩] }

/-- A counter's number. -/
def Cnt (x : Int) : Prop := 0 ≤ x ∧ x ≤ 9223372036854775807

section
variable {S : Nat → Prop} {w : World} {b : Nat} {s : NetSt}

/-- There is a map now; the box of the pair. -/
def Mapped (w wx : World) (b : Nat) (gv : Value) (tm : Option Nat) (mb : Nat) (cm : Option Nat) (s : NetSt) (k i : Int) : Prop :=
  NetIn wx b gv (some mb) cm s ∧ Kept (ofNet b gv tm cm) w wx ∧ wx.cell? ⟨w.heap.size, 0, none⟩ = some (.int .i64 k) ∧ wx.cell? ⟨w.heap.size, 1, none⟩ = some (.int .i64 i) ∧ mb ≠ w.heap.size ∧ (tm = some mb ∨ w.heap.size ≤ mb) ∧ w.heap.size < wx.heap.size

/-- Ahead of the last step: the box of what was counted, too. -/
def Counted (w wx : World) (b : Nat) (gv : Value) (tm : Option Nat) (mb : Nat) (cm : Option Nat) (s : NetSt) (k i : Int) (g : Nat) : Prop :=
  Mapped w wx b gv tm mb cm s k i ∧ wx.cell? ⟨g, 0, none⟩ = some (.int .i64 (sentS s k i)) ∧ wx.cell? ⟨g, 1, none⟩ = some (.int .i64 (lostS s k i)) ∧ mb ≠ g

theorem Mapped.drew {wx : World} {gv : Value} {tm cm : Option Nat} {mb : Nat} {k i : Int} (h : Mapped w wx b gv tm mb cm s k i) : Mapped w wx.drew b gv tm mb cm s k i :=
  ⟨h.1.drew, h.2.1.drew, h.2.2.1, h.2.2.2.1, h.2.2.2.2⟩
theorem Mapped.alloc {wx : World} {gv : Value} {tm cm : Option Nat} {mb : Nat} {k i : Int} (h : Mapped w wx b gv tm mb cm s k i) (o : Obj) : Mapped w (wx.alloc o) b gv tm mb cm s k i :=
  have hk := (Kept.refl (fun _ => False) wx).alloc o
  ⟨h.1.alloc o, h.2.1.alloc o, (hk.cell (p := ⟨w.heap.size, 0, none⟩) h.2.2.2.2.2.2 id).trans h.2.2.1, (hk.cell (p := ⟨w.heap.size, 1, none⟩) h.2.2.2.2.2.2 id).trans h.2.2.2.1, h.2.2.2.2.1, h.2.2.2.2.2.1, Nat.lt_of_lt_of_le h.2.2.2.2.2.2 hk.size⟩

set_option maxHeartbeats 1000000 in
set_option maxRecDepth 100000 in
theorem count_in {gv : Value} {tm cm : Option Nat} (h1 : NetIn w b gv tm cm s) {k i a l : Int} (hk : In64 k) (hi : In64 i) (hs : Cnt (sentS s k i)) (hl : Cnt (lostS s k i)) (ha : Cnt a) (hl0 : Cnt l) (hroom : s.tals.length < 1000000) :
    Calls Try.prog 26 #[.pointer (some ⟨b, 0, none⟩), keyV k i, .int .i64 a, .int .i64 l] w fun e w' => e = .returned (.tuple #[]) ∧ ∃ mb, NetIn w' b gv (some mb) cm (countS s k i a l) ∧ (tm = some mb ∨ w.heap.size ≤ mb) ∧ Kept (ofNet b gv tm cm) w w' := by
  have H1 : Hid (NetIn w b gv tm cm s) := h1
  have hne := h1.lt (Or.inl rfl)
  have HK : Hid (In64 k ∧ In64 i ∧ Cnt (sentS s k i) ∧ Cnt (lostS s k i) ∧ Cnt a ∧ Cnt l ∧ s.tals.length < 1000000) := ⟨hk, hi, hs, hl, ha, hl0, hroom⟩
  clear hk hi hs hl ha hl0 hroom
  unfold keyV
  go_enter Try.func26, Try.ntmps26
  have c1 := fun o => (h1.alloc o).c1
  have hE : ∀ w, (binOp .eql 32 (.map tm) (.map none)).run Try.prog w = .ok (.bool tm.isNone) w := fun w => by
    cases tm
    · exact eqMapNil w
    · exact eqMapSome _ w
  clear h1
  go_upto_if 13 with fail
  go_cut [5] (fun v5 wx => v5 = .pointer (some ⟨w.heap.size, 0, none⟩) ∧ ∃ mb', Mapped w wx b gv tm mb' cm s k i)
  case first =>
    have h1 := H1.out
    cases tm with
    | some mb =>
      have hmb := h1.lt (i := mb) (Or.inr (Or.inr (Or.inl rfl)))
      clear h1
      go_wp2
      go_meet
      refine ⟨rfl, mb, H1.out.alloc _, (Kept.refl _ w).alloc _, ?_, ?_, by omega, Or.inl rfl, by simp⟩
      all_goals go_simp
    | none =>
      have c1' := fun o o' => ((h1.alloc o).alloc o').c1
      have f1 := fun o => (h1.alloc o).f 1
      have f1' := fun o o' => ((h1.alloc o).alloc o').f 1
      have het : s.tals = [] := h1.ts
      have hes : ({ s with tals := [] } : NetSt) = s := by rw [← het]
      have hmm := @run_makeMap Try.prog
      clear h1
      go_wp2
      go_meet
      have h2 := (H1.out.alloc (.cells #[.int .i64 k, .int .i64 i] 48)).set1
      rw [hes] at h2
      have hk2 : Kept (fun i => i = b) (w.alloc (.cells #[.int .i64 k, .int .i64 i] 48)) _ := ((Kept.refl (fun i => i = b) (w.alloc (.cells #[.int .i64 k, .int .i64 i] 48))).alloc (.map #[] 0)).setCell (p := ⟨b, 1, none⟩) (Or.inr rfl) (.map (some (w.alloc (.cells #[.int .i64 k, .int .i64 i] 48)).heap.size))
      have hsz : (w.alloc (.cells #[.int .i64 k, .int .i64 i] 48)).heap.size = w.heap.size + 1 := by simp
      rw [hsz] at h2 hk2
      rw [World.setCell_alloc_past _ _ _ _ (by rw [hsz]; omega), World.setCell_alloc_past _ _ _ _ hne] at h2 hk2
      refine ⟨rfl, w.heap.size + 1, h2, (((Kept.refl _ w).setCell (p := ⟨b, 1, none⟩) (Or.inr (Or.inl rfl)) _).alloc _).alloc _, (hk2.cell (p := ⟨w.heap.size, 0, none⟩) (by simp) (fun e => by simp at e; omega)).trans (by simp), (hk2.cell (p := ⟨w.heap.size, 1, none⟩) (by simp) (fun e => by simp at e; omega)).trans (by simp), by omega, Or.inr (by omega), by simp; omega⟩
  case rest =>
    clear c1 hE
    obtain ⟨rfl, mb, hM⟩ := hcut
    have HM : Hid (Mapped w wc b gv tm mb cm s k i) := hM
    obtain ⟨h1, hkp, p0, p1, hmn, hmt, hsz⟩ := hM
    obtain ⟨hk, hi, hs, hl, ha, hl0, hroom⟩ := HK.out
    have c1 := h1.c1
    have c1' := fun o => (h1.alloc o).c1
    have p0' : ∀ o, (wc.alloc o).cell? ⟨w.heap.size, 0, none⟩ = some (.int .i64 k) := fun o => (HM.out.alloc o).2.2.1
    have p1' : ∀ o, (wc.alloc o).cell? ⟨w.heap.size, 1, none⟩ = some (.int .i64 i) := fun o => (HM.out.alloc o).2.2.2.1
    have hl1 : Sem.run Try.prog (Instr.lookup 32 (.map (some mb)) (.agg #[.int .i64 k, .int .i64 i]) false) wc.drew = _ := h1.drew.ts.look false hk hi
    have hl2 : ∀ o, Sem.run Try.prog (Instr.lookup 32 (.map (some mb)) (.agg #[.int .i64 k, .int .i64 i]) false) (wc.alloc o).drew = _ := fun o => (h1.alloc o).drew.ts.look false hk hi
    simp only [Bool.false_eq_true, if_false] at hl1 hl2
    have es : sentOf (findT s.tals k i) = sentS s k i := rfl
    have el : lostOf (findT s.tals k i) = lostS s k i := rfl
    have hmb : mb < wc.heap.size := h1.lt (Or.inr (Or.inr (Or.inl rfl)))
    simp only [es, el] at hl1 hl2
    clear es el h1 hkp hk hi hs hl ha hl0 hroom hmn hmt hsz H1
    go_upto_region 3 with fail
    go_cut [8] (fun v8 wx => ∃ g, v8 = .pointer (some ⟨g, 0, none⟩) ∧ Counted w wx b gv tm mb cm s k i g)
    case first =>
      go_region
      all_goals (go_wp2; go_meet)
      all_goals refine ⟨_, rfl, (HM.out.alloc _).drew, ?_, ?_, ?_⟩
      all_goals first | (go_simp; done) | exact Nat.ne_of_lt hmb
    case rest =>
      clear c1 c1' p0' p1' hl1 hl2 HM p0 p1 hmb
      obtain ⟨g, rfl, hM, q0, q1, hmg⟩ := hcut
      obtain ⟨h1, hkp, p0, p1, hmn, hmt, hsz⟩ := hM
      obtain ⟨hk, hi, hs, hl, ha, hl0, hroom⟩ := HK.out
      obtain ⟨wF, s1, s2, s3, s4⟩ := h1.drew.ts.store hroom hk hi (upToI (sentS s k i) a) (upToI (lostS s k i) l)
      have fin : Hid (∃ mb, NetIn wF b gv (some mb) cm (countS s k i a l) ∧ (tm = some mb ∨ w.heap.size ≤ mb) ∧ Kept (ofNet b gv tm cm) w wF) :=
        ⟨mb, h1.drew.turned s3 s2, hmt, hkp.drew.grown s3 (fun j hj => by
          cases hj
          exact hmt.elim (fun h => Or.inr (Or.inr (Or.inr (Or.inl h)))) Or.inl)⟩
      have u1 : Hid (∀ n m, Cnt n → Cnt m → ∀ w, Calls Try.prog 37 #[.int .i64 n, .int .i64 m] w fun e w' => e = .returned (.int .i64 (upToI n m)) ∧ w' = w) := fun n m hn hm w => upTo_any _ _ hn.1 hn.2 hm.1 hm.2 w
      have c1 := h1.c1
      have t0 := s3.cell c1 (fun e => h1.nt e.symm)
      have t1 := s3.cell (a := ⟨w.heap.size, 0, none⟩) p0 (fun e => hmn (Option.some.inj e).symm)
      have t2 := s3.cell (a := ⟨w.heap.size, 1, none⟩) p1 (fun e => hmn (Option.some.inj e).symm)
      have t3 := s3.cell (a := ⟨g, 0, none⟩) q0 (fun e => hmg (Option.some.inj e).symm)
      have t4 := s3.cell (a := ⟨g, 1, none⟩) q1 (fun e => hmg (Option.some.inj e).symm)
      unfold keyV at s1
      clear h1 hkp hk hi hroom s2 s3 s4 HK hmg hmn hmt hsz
      generalize sentS s k i = x1 at *
      generalize lostS s k i = x2 at *
      go_wp2
      go_region_held3 (fun W => W.cell? ⟨b, 1, none⟩ = some (.map (some mb)) ∧ W.cell? ⟨w.heap.size, 0, none⟩ = some (.int .i64 k) ∧ W.cell? ⟨w.heap.size, 1, none⟩ = some (.int .i64 i) ∧ W.cell? ⟨g, 0, none⟩ = some (.int .i64 x1) ∧ W.cell? ⟨g, 1, none⟩ = some (.int .i64 x2)) (first | assumption | go_keep) (first | (go_at_call 37; refine (u1.out _ _ (by assumption) (by assumption) _).mono ?_; rintro e w' ⟨rfl, rfl⟩))
      all_goals go_wp2
      all_goals go_end0
      all_goals exact ⟨rfl, fin.out⟩

theorem count_any (h : NetAt S w b s) {k i a l : Int} (hk : In64 k) (hi : In64 i) (hs : Cnt (sentS s k i)) (hl : Cnt (lostS s k i)) (ha : Cnt a) (hl0 : Cnt l) (hroom : s.tals.length < 1000000) :
    Calls Try.prog 26 #[.pointer (some ⟨b, 0, none⟩), keyV k i, .int .i64 a, .int .i64 l] w fun e w' => e = .returned (.tuple #[]) ∧ Next S w w' b (countS s k i a l) := by
  obtain ⟨gv, tm, cm, h1, hS⟩ := h
  refine (count_in h1 hk hi hs hl ha hl0 hroom).mono ?_
  rintro e w' ⟨rfl, mb, h2, hm, hkp⟩
  refine ⟨rfl, ofNet b gv (some mb) cm, ⟨gv, some mb, cm, h2, fun _ => Iff.rfl⟩, fun i hi => ?_, hkp.mono (fun i _ hi => (hS i).2 hi)⟩
  rcases hi with hi | hi | hi | hi
  · exact Or.inl ((hS i).2 (Or.inl hi))
  · exact Or.inl ((hS i).2 (Or.inr (Or.inl hi)))
  · cases hi
    exact hm.elim (fun h => Or.inl ((hS _).2 (Or.inr (Or.inr (Or.inl h))))) Or.inr
  · exact Or.inl ((hS i).2 (Or.inr (Or.inr (Or.inr hi))))

end
end Go.Proofs.Ytegofkpiipomfaa
