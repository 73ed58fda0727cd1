/- The contracts of a client's calls: New, asks, ask, Start, Tick, Take, Done, at a client that New made. -/
import Derived.Test.YtifkiiplknkgnaaGreatPaMem
import Derived.Deep.DeepCutAuto
namespace Go.Proofs.YtifkiiplknkgnaaGreat
open Go.RowKit

theorem eqPtrC (ad : Addr) (w : World) : (binOp .eql 25 (.pointer (some ad)) (.pointer none)).run Tryz.prog w = .ok (.bool false) w := by kernel_rfl
theorem nePtrC (ad : Addr) (w : World) : (binOp .neq 25 (.pointer (some ad)) (.pointer none)).run Tryz.prog w = .ok (.bool true) w := by kernel_rfl

theorem Kept.own {a w : World} {b : Nat} (h : Kept (fun i => i = b) a w) (j : Nat) (u : Value) : Kept (fun i => i = b) a (w.setCell ⟨b, j, none⟩ u) := h.setCell (p := ⟨b, j, none⟩) (Or.inr (by rfl)) u
theorem Kept.ofNone {a w : World} {b : Nat} (h : Kept (fun _ => False) a w) : Kept (fun i => i = b) a w := h.mono (fun _ _ h => h.elim)

set_option maxRecDepth 100000 in
theorem asks_any (b : Nat) (c : Pc) (w : World) (h : ClIn w b c) : Calls Tryz.prog 26 #[.pointer (some ⟨b, 0, none⟩)] w fun e w' => e = .returned (.bool (c.st == 1)) ∧ w' = w := by
  have c4 := h.c4
  clear h
  go_enter Tryz.func26, Tryz.ntmps26
  go_wp2
  go_ret
  exact ⟨rfl, rfl⟩

set_option maxHeartbeats 1000000 in
set_option maxRecDepth 100000 in
theorem ask_any (b : Nat) (c : Pc) (w : World) (hi : 0 ≤ c.id ∧ c.id ≤ 255) (h : ClIn w b c) : Calls Tryz.prog 24 #[.pointer (some ⟨b, 0, none⟩)] w fun e w' => ∃ v, e = .returned v ∧ ClIn w' b (askC c) ∧ OwnQ w' w.heap.size v (sentC c) ∧ Kept (fun i => i = b) w w' := by
  have c3 := h.c3
  have f3 := h.fz 3
  have h1 := h.set3 ((c.id + 1) % 256)
  have f6 := h1.fz 6
  have d6 := h1.c6
  have h2 := h1.set6 0
  have K2 := hid (((Kept.refl (fun i => i = b) w).own 3 (.int .i64 ((c.id + 1) % 256))).own 6 (.int .i64 0))
  have H2 := hid h2
  have hw1 : IntKind.i64.wrap (c.id + 1) = c.id + 1 := by rw [IntKind.wrap_i64]; omega
  have hw2 : IntKind.u8.wrap (c.id + 1) = (c.id + 1) % 256 := rfl
  have hw3 : IntKind.i64.wrap ((c.id + 1) % 256) = (c.id + 1) % 256 := by rw [IntKind.wrap_i64]; omega
  have e3 : (pcCells (askC c))[3]? = some (.int .i64 ((c.id + 1) % 256)) := rfl
  unfold sentC
  generalize hX : (c.id + 1) % 256 = X at *
  clear h h1 h2
  go_enter Tryz.func24, Tryz.ntmps24
  go_upto_region 3 with fail
  generalize hW : (w.setCell ⟨b, 3, none⟩ (.int .i64 X)).setCell ⟨b, 6, none⟩ (.int .i64 0) = W at *
  clear hW f3 f6 d6 c3 hw1 hw2 hw3
  have c3 := H2.out.c3
  have c0 := H2.out.c0
  simp only at c3 c0
  go_region
  all_goals
    go_wp2
    go_ret
    refine ⟨_, rfl, ?_, ?_, ?_⟩
    · have := (H2.out.drew).kept0 ((Kept.refl (fun _ => False) W.drew).alloc (.cells #[.int .i64 1, .int .i64 X, .slice none 0 0, .string c.data] 56))
      unfold askC
      rw [hX]
      exact this
    · have hsz := K2.out.size
      exact (OwnQ.new W.drew ⟨1, X, c.data⟩).mono hsz
    · exact K2.out.drew.alloc _
set_option maxHeartbeats 1000000 in
set_option maxRecDepth 100000 in
theorem start_any (b : Nat) (c : Pc) (hg : GoodC c) (w : World) (h : ClIn w b c) : Calls Tryz.prog 8 #[.pointer (some ⟨b, 0, none⟩)] w fun e w' => ∃ v, e = .returned v ∧ ClIn w' b (startC c).2 ∧ OwnQ w' w.heap.size v (startC c).1 ∧ Kept (fun i => i = b) w w' := by
  have c2 := h.c2
  have hz : (c.wait == 0) = false := by have := hg.wait; rw [beq_eq_false_iff_ne]; omega
  have c4 := h.c4
  have f4 := h.fz 4
  have h1 := h.set4 1
  have c5 := h1.c5
  have f5 := h1.fz 5
  have h2 := h1.set5 0
  have K2 := hid (((Kept.refl (fun i => i = b) w).own 4 (.int .i64 1)).own 5 (.int .i64 0))
  have HA := hid (ask_any b { c with st := 1, again := 0 } _ hg.id h2)
  clear h h1 h2 hg
  go_enter Tryz.func8, Tryz.ntmps8
  go_wp2_with fail
  refine HA.out.mono ?_
  rintro e w' ⟨v, rfl, hc, ho, hk⟩
  have HC := hid hc
  have HO := hid ho
  have HK := hid (K2.out.trans hk)
  have hs := K2.out.size
  clear hc ho hk HA
  go_wp2
  go_ret
  exact ⟨v, rfl, HC.out, HO.out.mono hs, HK.out⟩

set_option maxHeartbeats 2000000 in
set_option maxRecDepth 100000 in
theorem tick_any (b : Nat) (c : Pc) (hg : GoodC c) (w : World) (h : ClIn w b c) : Calls Tryz.prog 10 #[.pointer (some ⟨b, 0, none⟩)] w fun e w' => ∃ v, e = .returned v ∧ ClIn w' b (tickC c).2 ∧ OwnQ w' w.heap.size v (tickC c).1 ∧ Kept (fun i => i = b) w w' := by
  have HA := hid (asks_any b c w h)
  unfold tickC
  by_cases hs : c.st = 1
  · rw [if_pos hs]
    rw [show (c.st == 1) = true by simp [hs]] at HA
    have c6 := h.c6
    have f6 := h.fz 6
    have h1 := h.set6 (c.ticks + 1)
    have H1 := hid h1
    have hw6 : IntKind.i64.wrap (c.ticks + 1) = c.ticks + 1 := by have := hg.ticks; have := hg.wait; rw [IntKind.wrap_i64]; omega
    have hw5 : IntKind.i64.wrap (c.again + 1) = c.again + 1 := by have := hg.again; have := hg.retry; rw [IntKind.wrap_i64]; omega
    have K1 := hid ((Kept.refl (fun i => i = b) w).own 6 (.int .i64 (c.ticks + 1)))
    have G := hid hg
    clear h h1 hg
    by_cases h1 : c.ticks + 1 < c.wait
    · rw [if_pos h1]
      go_enter Tryz.func10, Tryz.ntmps10
      go_wp2_with (go_at_call 26; refine HA.out.mono ?_; rintro e w' ⟨rfl, hw⟩; rw [hw]; clear hw w')
      generalize hW : w.setCell ⟨b, 6, none⟩ (.int .i64 (c.ticks + 1)) = W at *
      have c6 := H1.out.c6
      have c2 := H1.out.c2
      simp only at c6 c2
      go_region
      all_goals
        go_wp2
        go_ret
        exact ⟨_, rfl, H1.out.drew, OwnQ.nil _ _, K1.out.drew⟩
    · rw [if_neg h1]
      by_cases h2 : c.again = c.retry
      · rw [if_pos h2]
        have hd : (c.again == c.retry) = true := by simp [h2]
        clear h2
        go_enter Tryz.func10, Tryz.ntmps10
        go_wp2_with (go_at_call 26; refine HA.out.mono ?_; rintro e w' ⟨rfl, hw⟩; rw [hw]; clear hw w')
        generalize hW : w.setCell ⟨b, 6, none⟩ (.int .i64 (c.ticks + 1)) = W at *
        have c6 := H1.out.c6
        have c2 := H1.out.c2
        have c5 := H1.out.c5
        have c1 := H1.out.c1
        have c4 := H1.out.c4
        have f4 := H1.out.fz 4
        simp only at c6 c2 c5 c1 c4
        go_region
        all_goals
          go_wp2
          go_region
          all_goals
            go_wp2
            go_ret
            exact ⟨_, rfl, H1.out.drew.drew.set4 3, OwnQ.nil _ _, K1.out.drew.drew.own 4 _⟩
      · rw [if_neg h2]
        have hd : (c.again == c.retry) = false := by simpa using h2
        clear h2
        go_enter Tryz.func10, Tryz.ntmps10
        go_wp2_with (go_at_call 26; refine HA.out.mono ?_; rintro e w' ⟨rfl, hw⟩; rw [hw]; clear hw w')
        generalize hW : w.setCell ⟨b, 6, none⟩ (.int .i64 (c.ticks + 1)) = W at *
        have c6 := H1.out.c6
        have c2 := H1.out.c2
        have c5 := H1.out.c5
        have c1 := H1.out.c1
        have f5 := H1.out.fz 5
        simp only at c6 c2 c5 c1
        have H2 := hid (H1.out.drew.drew.set5 (c.again + 1))
        have K2 := hid (K1.out.drew.drew.own 5 (.int .i64 (c.again + 1)))
        have HK := hid (ask_any b { c with ticks := c.ticks + 1, again := c.again + 1 } _ G.out.id H2.out)
        go_region
        all_goals
          go_wp2
          go_region
          all_goals
            go_wp2_with fail
            refine HK.out.mono ?_
            rintro e w' ⟨v, rfl, hc, ho, hk⟩
            have HC := hid hc
            have HO := hid ho
            have HK' := hid (K2.out.trans hk)
            have hs := K2.out.size
            clear hc ho hk
            go_wp2
            go_ret
            exact ⟨v, rfl, HC.out, HO.out.mono hs, HK'.out⟩
  · rw [if_neg hs]
    rw [show (c.st == 1) = false by simpa using hs] at HA
    have H := hid h
    clear h hg hs
    go_enter Tryz.func10, Tryz.ntmps10
    go_wp2_with (go_at_call 26; refine HA.out.mono ?_; rintro e w' ⟨rfl, hw⟩; rw [hw]; clear hw w')
    go_ret
    exact ⟨_, rfl, H.out, OwnQ.nil _ _, Kept.refl _ _⟩

set_option maxHeartbeats 1000000 in
set_option maxRecDepth 100000 in
theorem done_any (b : Nat) (c : Pc) (w : World) (h : ClIn w b c) : Calls Tryz.prog 15 #[.pointer (some ⟨b, 0, none⟩)] w fun e w' => e = .returned (.tuple #[.bool (doneC c), .bool (c.st == 2)]) ∧ Kept (fun _ => False) w w' := by
  have c4 := h.c4
  clear h
  unfold doneC
  by_cases h2 : c.st = 2
  · have e2 : (c.st == 2) = true := by simp [h2]
    rw [show (decide (c.st = 2) || decide (c.st = 3)) = true by simp [h2], e2]
    clear h2
    go_enter Tryz.func15, Tryz.ntmps15
    go_wp2
    go_quiet (fail)
    go_wp2
    go_ret2
    exact ⟨rfl, (Kept.refl _ _).drewN _⟩
  · have e2 : (c.st == 2) = false := by simpa using h2
    by_cases h3 : c.st = 3
    · have e3 : (c.st == 3) = true := by simp [h3]
      rw [show (decide (c.st = 2) || decide (c.st = 3)) = true by simp [h3], e2]
      clear h2 h3
      go_enter Tryz.func15, Tryz.ntmps15
      go_wp2
      go_quiet (fail)
      go_wp2
      go_ret2
      exact ⟨rfl, (Kept.refl _ _).drewN _⟩
    · have e3 : (c.st == 3) = false := by simpa using h3
      rw [show (decide (c.st = 2) || decide (c.st = 3)) = false by simp [h2, h3], e2]
      clear h2 h3
      go_enter Tryz.func15, Tryz.ntmps15
      go_wp2
      go_quiet (fail)
      go_wp2
      go_ret2
      exact ⟨rfl, (Kept.refl _ _).drewN _⟩

/-- What New answers. -/
def NewIs (R : ByteArray × Int) (retry wait : Int) (w : World) (e : Ending) (w' : World) : Prop :=
  ((∃ E : Int, E ≠ 0 ∧ R.2 = E ∧ e = .returned (.tuple #[.pointer none, .int .i64 E])) ∨
   (R.2 = 0 ∧ ¬ (0 ≤ retry ∧ retry ≤ 10 ∧ 1 ≤ wait ∧ wait ≤ 100) ∧ e = .returned (.tuple #[.pointer none, .int .i64 1])) ∨
   (R.2 = 0 ∧ (0 ≤ retry ∧ retry ≤ 10 ∧ 1 ≤ wait ∧ wait ≤ 100) ∧ ∃ b, w.heap.size ≤ b ∧ e = .returned (.tuple #[.pointer (some ⟨b, 0, none⟩), .int .i64 0]) ∧ ClIn w' b (newC R.1 retry wait))) ∧ Kept (fun _ => False) w w'

set_option maxHeartbeats 1000000 in
set_option maxRecDepth 100000 in
theorem newC_any (n s : ByteArray) (hn : n.size ≤ 140737488351232) (hs : s.size ≤ 140737488351232) (retry wait : Int) (w : World) :
    Calls Tryz.prog 6 #[.string n, .string s, .int .i64 retry, .int .i64 wait] w (NewIs (putReqF n s) retry wait w) := by
  have HP := hid (putReq_any n s hn hs w)
  generalize putReqF n s = R at *
  obtain ⟨X, E⟩ := R
  simp only at HP ⊢
  by_cases h0 : E = 0
  · subst h0
    by_cases h1 : retry < 0
    · go_enter Tryz.func6, Tryz.ntmps6
      go_wp2_with fail
      refine HP.out.mono ?_
      rintro e w1 ⟨rfl, hk1⟩
      go_wp2
      go_ret2
      exact ⟨Or.inr (Or.inl ⟨rfl, by omega, rfl⟩), hk1⟩
    · by_cases h2 : 10 < retry
      · go_enter Tryz.func6, Tryz.ntmps6
        go_wp2_with fail
        refine HP.out.mono ?_
        rintro e w1 ⟨rfl, hk1⟩
        go_wp2
        go_ret2
        exact ⟨Or.inr (Or.inl ⟨rfl, by omega, rfl⟩), hk1⟩
      · by_cases h3 : wait < 1
        · go_enter Tryz.func6, Tryz.ntmps6
          go_wp2_with fail
          refine HP.out.mono ?_
          rintro e w1 ⟨rfl, hk1⟩
          go_wp2
          go_ret2
          exact ⟨Or.inr (Or.inl ⟨rfl, by omega, rfl⟩), hk1⟩
        · by_cases h4 : 100 < wait
          · go_enter Tryz.func6, Tryz.ntmps6
            go_wp2_with fail
            refine HP.out.mono ?_
            rintro e w1 ⟨rfl, hk1⟩
            go_wp2
            go_ret2
            exact ⟨Or.inr (Or.inl ⟨rfl, by omega, rfl⟩), hk1⟩
          · go_enter Tryz.func6, Tryz.ntmps6
            go_wp2_with fail
            refine HP.out.mono ?_
            rintro e w1 ⟨rfl, hk1⟩
            have hs1 := hk1.size
            go_wp2
            go_ret2
            exact ⟨Or.inr (Or.inr ⟨rfl, by omega, w1.heap.size, hs1, rfl, heap_alloc_new w1 _⟩), hk1.alloc _⟩
  · have hE : (E != 0) = true := by simpa using h0
    have H0 := hid h0
    clear h0
    go_enter Tryz.func6, Tryz.ntmps6
    go_wp2_with fail
    refine HP.out.mono ?_
    rintro e w1 ⟨rfl, hk1⟩
    go_wp2
    go_ret2
    exact ⟨Or.inl ⟨E, H0.out, rfl, rfl⟩, hk1⟩

end Go.Proofs.YtifkiiplknkgnaaGreat
