/- The law TapeAnew: it returns true for every key and numbers, and leaves what was there. -/
import Derived.Test.YtmclldidmpeahabAlive3
import Derived.DeepKeys
namespace Go.Proofs.Ytmclldidmpeahab
open Go.RowKit

theorem key_same (k i : Int) (hk : In64 k) (hi : In64 i) (W : World) : (Op.equalIn 10000 23 (.agg #[.int .i64 k, .int .i64 i]) (.agg #[.int .i64 k, .int .i64 i])).run Try.prog W = .ok true W := by
  have hkt : Try.prog.keyTypeAt 2 23 = true := by kernel_rfl
  have h : Try.prog.keyLits 2 23 [.int .i64 k, .int .i64 i] = some [.int .i64 k, .int .i64 i] := by
    simp [Program.keyLits, Try.underlying23, cellsKey, cellsInt, Try.underlying3, wf64 hk, wf64 hi]
  have hf : (Value.agg #[.int .i64 k, .int .i64 i]).formed Try.prog 23 = true := by simp [Value.formed, Try.underlying23, cellsKey]
  obtain ⟨r, hr, hiff⟩ := run_equalIn_deep (P := Try.prog) 9998 2 23 hkt W 2 2 (.agg #[.int .i64 k, .int .i64 i]) (.agg #[.int .i64 k, .int .i64 i]) _ _ hf hf h h
  have hr' : (Op.equalIn 10000 23 (.agg #[.int .i64 k, .int .i64 i]) (.agg #[.int .i64 k, .int .i64 i])).run Try.prog W = .ok r W := hr
  rw [hr', hiff.2 rfl]

set_option maxHeartbeats 1000000 in
set_option maxRecDepth 100000 in
theorem tapeAnew_out (k i a b : Int) (h : a < 1 ∨ b < 1 ∨ 100000 < a ∨ 100000 < b) (w : World) :
    Calls Try.prog 3 #[.agg #[.int .i64 k, .int .i64 i], .int .i64 a, .int .i64 b] w fun e w' => e = .returned (.bool true) ∧ Below w.heap.size w w' := by
  have Ha := hid alive_any
  have Hk0 := hid (fun o => (Kept.refl (fun _ => False) w).alloc o)
  by_cases h1 : a < 1
  · clear h
    go_enter Try.func3, Try.ntmps3
    go_wp2_with (go_at_call 4; refine (Ha.out _).mono ?_; rintro e w' ⟨rfl, hk⟩)
    all_goals go_ret
    all_goals exact ⟨rfl, ((Hk0.out _).trans hk).below (Nat.le_refl _) (fun _ h => h.elim)⟩
  by_cases h2 : b < 1
  · clear h
    go_enter Try.func3, Try.ntmps3
    go_wp2_with (go_at_call 4; refine (Ha.out _).mono ?_; rintro e w' ⟨rfl, hk⟩)
    all_goals go_ret
    all_goals exact ⟨rfl, ((Hk0.out _).trans hk).below (Nat.le_refl _) (fun _ h => h.elim)⟩
  by_cases h3 : 100000 < a
  · clear h
    go_enter Try.func3, Try.ntmps3
    go_wp2_with (go_at_call 4; refine (Ha.out _).mono ?_; rintro e w' ⟨rfl, hk⟩)
    all_goals go_ret
    all_goals exact ⟨rfl, ((Hk0.out _).trans hk).below (Nat.le_refl _) (fun _ h => h.elim)⟩
  · have h4 : 100000 < b := by omega
    clear h
    go_enter Try.func3, Try.ntmps3
    go_wp2_with (go_at_call 4; refine (Ha.out _).mono ?_; rintro e w' ⟨rfl, hk⟩)
    all_goals go_ret
    all_goals exact ⟨rfl, ((Hk0.out _).trans hk).below (Nat.le_refl _) (fun _ h => h.elim)⟩
set_option maxHeartbeats 2000000 in
set_option maxRecDepth 100000 in
theorem tapeAnew_in (k i a b : Int) (hk : In64 k) (hi : In64 i) (h1 : 1 ≤ a) (h2 : 1 ≤ b) (h3 : a ≤ 100000) (h4 : b ≤ 100000) (w : World) :
    Calls Try.prog 3 #[.agg #[.int .i64 k, .int .i64 i], .int .i64 a, .int .i64 b] w fun e w' => e = .returned (.bool true) ∧ Below w.heap.size w w' := by
  have Ha := hid alive_any
  have hb0 : (w.alloc (.cells #[.int .i64 k, .int .i64 i] 23)).cell? ⟨w.heap.size, 0, none⟩ = some (.int .i64 k) := by simp
  have hb1 : (w.alloc (.cells #[.int .i64 k, .int .i64 i] 23)).cell? ⟨w.heap.size, 1, none⟩ = some (.int .i64 i) := by simp
  have hz : w.heap.size < (w.alloc (.cells #[.int .i64 k, .int .i64 i] 23)).heap.size := by simp
  have Hbox := hid (fun W (hW : Kept (fun _ => False) (w.alloc (.cells #[.int .i64 k, .int .i64 i] 23)) W) =>
    (⟨(hW.cell (p := ⟨w.heap.size, 0, none⟩) hz id).trans hb0, (hW.cell (p := ⟨w.heap.size, 1, none⟩) hz id).trans hb1⟩ : W.cell? ⟨w.heap.size, 0, none⟩ = some (.int .i64 k) ∧ W.cell? ⟨w.heap.size, 1, none⟩ = some (.int .i64 i)))
  have Hk0 := hid ((Kept.refl (fun _ => False) w).alloc (.cells #[.int .i64 k, .int .i64 i] 23))
  have Hsz := hid hz
  clear hb0 hb1 hz
  go_enter Try.func3, Try.ntmps3
  go_wp2_with fail
  refine (newClock_any _).mono ?_
  rintro e w1 ⟨rfl, hc1, hk1, _⟩
  obtain ⟨kb, hkb⟩ : ∃ kb, kb = (w.alloc (.cells #[.int .i64 k, .int .i64 i] 23)).heap.size := ⟨_, rfl⟩
  rw [← hkb] at hc1 ⊢
  have hkw : (w.alloc (.cells #[.int .i64 k, .int .i64 i] 23)).heap.size ≤ kb := by omega
  have HK1 := hid hk1
  obtain ⟨q0, q1⟩ := Hbox.out w1 hk1
  clear hk1 hkb
  have Hkw := hid hkw
  clear hkw
  go_wp2_with fail
  refine (show Calls Try.prog 6 #[.pointer (some ⟨kb, 0, none⟩), .agg #[.int .i64 k, .int .i64 i], .int .i64 a] w1 _ from set_new kb 0 0 k i a hk hi h1 (by omega) (by decide) (by decide) (by decide) (by decide) w1 hc1).mono ?_
  rintro e w2 ⟨rfl, mb, hmb, hc2, hk2⟩
  have hc2' : IsClock w2 kb (some mb) 0 1 [⟨k, i, a, 1⟩] := by simpa [putT, dropT] using hc2
  have hmw : (w.alloc (.cells #[.int .i64 k, .int .i64 i] 23)).heap.size ≤ mb := Nat.le_trans HK1.out.size hmb
  have Hmw := hid hmw
  have HK2 := hid (HK1.out.andThen hk2 (fun i hi e => clock_new Hkw.out (fun j hj => by cases hj) hi e))
  clear q0 q1 hc2 hk2 hc1 HK1 hmb hmw
  obtain ⟨q0, q1⟩ := Hbox.out w2 HK2.out
  go_wp2_with fail
  refine (show Calls Try.prog 6 #[.pointer (some ⟨kb, 0, none⟩), .agg #[.int .i64 k, .int .i64 i], .int .i64 b] w2 _ from set_in kb mb 0 1 [⟨k, i, a, 1⟩] k i b hk hi h2 (by omega) (Or.inl (by simp [findT, isOf])) (by simp) (by decide) (by decide) (by decide) (by decide) w2 hc2').mono ?_
  rintro e w3 ⟨rfl, hc3, hk3⟩
  have hc3' : IsClock w3 kb (some mb) 0 2 [⟨k, i, b, 2⟩] := by simpa [putT, dropT, isOf] using hc3
  have HK3 := hid (HK2.out.andThen hk3 (fun i hi e => clock_new Hkw.out (fun j hj => by cases hj; exact Hmw.out) hi e))
  clear q0 q1 hc2' hc3 hk3 HK2
  go_wp2_with fail
  refine (len_any kb (some mb) 0 2 [⟨k, i, b, 2⟩] w3 hc3').mono ?_
  rintro e w' ⟨rfl, rfl⟩
  rw [show (([⟨k, i, b, 2⟩] : List Tm).length : Int) = 1 from rfl]
  have hov : overT (a + b) ⟨k, i, b, 2⟩ = true := by simp [overT]; omega
  have Htk := hid (tick_any kb mb 0 2 (a + b) (a + b) (by omega) [⟨k, i, b, 2⟩] (by intro t ht; simp at ht; subst ht; exact ⟨hk, hi⟩) (by simp) (by omega) (by omega) (by decide) (by omega) (by simp [hov]) w' hc3')
  simp only [List.filter_cons, hov, if_true, List.filter_nil, Bool.not_true, Bool.false_eq_true, if_false] at Htk
  clear hov hc3'
  go_wp2_with fail
  refine Htk.out.mono ?_
  rintro e w4 ⟨v, S, rfl, hS, _, hrow, hc4, hk4⟩
  have hSe : S = [⟨k, i, b, 2⟩] := by simpa using hS
  subst hSe
  obtain ⟨p, cap, rfl⟩ := slice_of hrow
  obtain ⟨g, rfl, hg, r0, r1⟩ := key_cells hrow 0 ⟨k, i, b, 2⟩ rfl
  have HK4 := hid (HK3.out.andThen hk4 (fun i hi e => clock_new Hkw.out (fun j hj => by cases hj; exact Hmw.out) hi e))
  have Hwh := hid (when_any kb (some mb) (a + b) 2 [] k i hk hi w4 hc4)
  obtain ⟨q0, q1⟩ := Hbox.out w4 HK4.out
  have R0 := hid r0
  have R1 := hid r1
  clear hS hrow hc4 hk4 HK3 Htk r0 r1
  go_wp2_with fail
  refine Hwh.out.mono ?_
  rintro e w5 ⟨rfl, hk5⟩
  have HK5 := hid (HK4.out.trans hk5)
  have e1 : findT [] k i = none := rfl
  rw [e1]
  simp only [timeOf, Option.isSome_none]
  clear q0 q1 e1 Hwh
  have P5 := hid (fun W (h : Kept (fun _ => False) w4 W) => (⟨(h.cell (p := ⟨g, 0, none⟩) (lt_of_cell R0.out) id).trans R0.out, (h.cell (p := ⟨g, 1, none⟩) (lt_of_cell R1.out) id).trans R1.out⟩ : W.cell? ⟨g, 0, none⟩ = some (.int .i64 k) ∧ W.cell? ⟨g, 1, none⟩ = some (.int .i64 i)))
  have HK5' := hid hk5
  clear hk5
  have hEq := key_same k i hk hi
  have hKd := HK5'.out.drew
  have hKe := HK5.out.drew
  go_wp2
  go_region_held3 (fun W => W.cell? ⟨g, 0, none⟩ = some (.int .i64 k) ∧ W.cell? ⟨g, 1, none⟩ = some (.int .i64 i) ∧ W.cell? ⟨w.heap.size, 0, none⟩ = some (.int .i64 k) ∧ W.cell? ⟨w.heap.size, 1, none⟩ = some (.int .i64 i)) (first | assumption | exact ⟨(P5.out _ hKd).1, (P5.out _ hKd).2, (Hbox.out _ hKe).1, (Hbox.out _ hKe).2⟩ | go_keep) (first
    | (go_at_call 4; refine (Ha.out _).mono ?_; rintro e w6 ⟨rfl, hk6⟩; have hKd6 := hKd.trans hk6; have hKe6 := hKe.trans hk6; have z0 := (P5.out _ hKd6).1; have z1 := (P5.out _ hKd6).2; have z2 := (Hbox.out _ hKe6).1; have z3 := (Hbox.out _ hKe6).2))
  go_wp2
  go_ret
  exact ⟨rfl, (Hk0.out.trans hKe6).below (Nat.le_refl _) (fun _ h => h.elim)⟩

theorem tapeAnew_walk (k i a b : Int) (w : World) (hk : In64 k) (hi : In64 i) (_ha : In64 a) (_hb : In64 b) :
    Calls Try.prog 3 #[.agg #[.int .i64 k, .int .i64 i], .int .i64 a, .int .i64 b] w fun e w' => e = .returned (.bool true) ∧ Below w.heap.size w w' := by
  by_cases h : a < 1 ∨ b < 1 ∨ 100000 < a ∨ 100000 < b
  · exact tapeAnew_out k i a b h w
  · exact tapeAnew_in k i a b hk hi (by omega) (by omega) (by omega) (by omega) w
end Go.Proofs.Ytmclldidmpeahab
