/- Contracts of ctl's small functions: numbers, what only reads an end. (Written by gen_cnsmall.py.) -/
import Derived.Test.YtoflohomnoppnaaCnMem
import Derived.Deep.QuietTactic
import Derived.BigQuiet
import Derived.Handy
namespace Go.Proofs.Ytoflohomnoppnaa
open Go.RowKit

set_option maxHeartbeats 2000000 in
set_option maxRecDepth 100000 in
theorem wrap_any (v : Int) (w : World) :
    Calls Try.prog 22 #[.int .i64 v] w fun e w' => e = .returned (.int .i64 (wrapN v)) ∧ w' = w := by
  have h1 : IntKind.u16.wrap v = wrapN v := by unfold wrapN; rw [IntKind.wrap_u16]
  have h2 : IntKind.i64.wrap (wrapN v) = wrapN v := by have := wrapN_in v; rw [IntKind.wrap_i64]; omega
  generalize wrapN v = r at *
  go_enter Try.func22, Try.ntmps22
  go_wp2
  go_ret
  exact ⟨rfl, rfl⟩

set_option maxHeartbeats 2000000 in
set_option maxRecDepth 100000 in
theorem isNum_any (v : Int) (w : World) :
    Calls Try.prog 26 #[.int .i64 v] w fun e w' => e = .returned (.bool (numN v)) ∧ w' = w := by
  have HD : Hid (numN v = if 0 ≤ v then decide (v ≤ 65535) else false) := by
    show _ = _
    unfold numN
    split
    · rename_i h
      rw [decide_eq_true h, Bool.true_and]
    · rename_i h
      rw [decide_eq_false h, Bool.false_and]
  by_cases g1 : 0 ≤ v
  · have HE := hid (show (numN v) = decide (v ≤ 65535) from by rw [HD.out, if_pos g1])
    clear HD
    go_enter Try.func26, Try.ntmps26
    go_wp2
    go_ret
    exact ⟨by rw [HE.out]; rfl, rfl⟩
  · have HE := hid (show (numN v) = false from by rw [HD.out, if_neg g1])
    clear HD
    go_enter Try.func26, Try.ntmps26
    go_wp2
    go_ret
    exact ⟨by rw [HE.out]; rfl, rfl⟩

set_option maxHeartbeats 2000000 in
set_option maxRecDepth 100000 in
theorem isWin_any (v : Int) (w : World) :
    Calls Try.prog 32 #[.int .i64 v] w fun e w' => e = .returned (.bool ((decide (1 ≤ v) && decide (v ≤ 64)))) ∧ w' = w := by
  have HD : Hid ((decide (1 ≤ v) && decide (v ≤ 64)) = if 1 ≤ v then decide (v ≤ 64) else false) := by
    show _ = _
    split
    · rename_i h
      rw [decide_eq_true h, Bool.true_and]
    · rename_i h
      rw [decide_eq_false h, Bool.false_and]
  by_cases g1 : 1 ≤ v
  · have HE := hid (show ((decide (1 ≤ v) && decide (v ≤ 64))) = decide (v ≤ 64) from by rw [HD.out, if_pos g1])
    clear HD
    go_enter Try.func32, Try.ntmps32
    go_wp2
    go_ret
    exact ⟨by rw [HE.out]; rfl, rfl⟩
  · have HE := hid (show ((decide (1 ≤ v) && decide (v ≤ 64))) = false from by rw [HD.out, if_neg g1])
    clear HD
    go_enter Try.func32, Try.ntmps32
    go_wp2
    go_ret
    exact ⟨by rw [HE.out]; rfl, rfl⟩

theorem wrapN_wrap (v : Int) : wrapN (wrap64 v) = wrapN v := by
  unfold wrapN wrap64
  omega

set_option maxHeartbeats 2000000 in
set_option maxRecDepth 100000 in
theorem before_any (a b : Int) (w : World) :
    Calls Try.prog 8 #[.int .i64 a, .int .i64 b] w fun e w' => e = .returned (.bool (beforeN a b)) ∧ w' = w := by
  have H1 := hid (fun W => wrap_any (wrap64 (b - a)) W)
  rw [wrapN_wrap] at H1
  unfold beforeN
  generalize wrapN (b - a) = D at *
  have HD : Hid ((decide (1 ≤ D) && decide (D ≤ 32767)) = if 1 ≤ D then decide (D ≤ 32767) else false) := by
    show _ = _
    split
    · rename_i h
      rw [decide_eq_true h, Bool.true_and]
    · rename_i h
      rw [decide_eq_false h, Bool.false_and]
  by_cases g1 : 1 ≤ D
  · have HE := hid (show (decide (1 ≤ D) && decide (D ≤ 32767)) = decide (D ≤ 32767) from by rw [HD.out, if_pos g1])
    go_enter Try.func8, Try.ntmps8
    go_wp2_with fail
    refine (H1.out _).mono ?_
    rintro e w1 ⟨rfl, hq⟩
    rw [hq]
    clear hq w1
    go_wp2
    go_ret
    exact ⟨by rw [HE.out]; rfl, rfl⟩
  · have HE := hid (show (decide (1 ≤ D) && decide (D ≤ 32767)) = false from by rw [HD.out, if_neg g1])
    go_enter Try.func8, Try.ntmps8
    go_wp2_with fail
    refine (H1.out _).mono ?_
    rintro e w1 ⟨rfl, hq⟩
    rw [hq]
    clear hq w1
    go_wp2
    go_ret
    exact ⟨by rw [HE.out]; rfl, rfl⟩

set_option maxHeartbeats 2000000 in
set_option maxRecDepth 100000 in
theorem isNone_any (b : Nat) (c : Cn) (vw vf : Value) (w : World) (h : CnB w b c vw vf) (hw : 1 ≤ c.wait) :
    Calls Try.prog 25 #[.pointer (some ⟨b, 0, none⟩)] w fun e w' => e = .returned (.bool false) ∧ w' = w := by
  obtain ⟨c0, c1, c2, c3, c4, c5, c6, c7, c8, c9, c10, c11, c12, c13, c14, c15⟩ := h.cells
  have hz : (c.wait == 0) = false := by rw [beq_eq_false_iff_ne]; omega
  clear hw h
  obtain ⟨queue, retry, wait, win, room, mark, count, next, come, waits, flies, owed, again, ticks, tries, dead⟩ := c
  dsimp only at *
  go_enter Try.func25, Try.ntmps25
  go_wp2
  go_ret
  exact ⟨rfl, rfl⟩

set_option maxHeartbeats 2000000 in
set_option maxRecDepth 100000 in
theorem isNone_nil (w : World) :
    Calls Try.prog 25 #[.pointer none] w fun e w' => e = .returned (.bool true) ∧ w' = w := by
  go_enter Try.func25, Try.ntmps25
  go_wp2
  go_ret
  exact ⟨rfl, rfl⟩

set_option maxHeartbeats 2000000 in
set_option maxRecDepth 100000 in
theorem isNone_zero (b : Nat) (w : World) (h : w.cell? ⟨b, 2, none⟩ = some (.int .i64 0)) :
    Calls Try.prog 25 #[.pointer (some ⟨b, 0, none⟩)] w fun e w' => e = .returned (.bool true) ∧ w' = w := by
  go_enter Try.func25, Try.ntmps25
  go_wp2
  go_ret
  exact ⟨rfl, rfl⟩

set_option maxHeartbeats 2000000 in
set_option maxRecDepth 100000 in
theorem dead_any (b : Nat) (c : Cn) (vw vf : Value) (w : World) (h : CnB w b c vw vf) (hw : 1 ≤ c.wait) :
    Calls Try.prog 13 #[.pointer (some ⟨b, 0, none⟩)] w fun e w' => e = .returned (.bool c.dead) ∧ w' = w := by
  have H1 := hid (isNone_any b c vw vf w h hw)
  obtain ⟨c0, c1, c2, c3, c4, c5, c6, c7, c8, c9, c10, c11, c12, c13, c14, c15⟩ := h.cells
  clear hw h
  obtain ⟨queue, retry, wait, win, room, mark, count, next, come, waits, flies, owed, again, ticks, tries, dead⟩ := c
  dsimp only at *
  go_enter Try.func13, Try.ntmps13
  go_wp2_with fail
  refine (H1.out).mono ?_
  rintro e w1 ⟨rfl, hq⟩
  rw [hq]
  clear hq w1 H1
  go_wp2
  go_ret
  exact ⟨rfl, rfl⟩

set_option maxHeartbeats 2000000 in
set_option maxRecDepth 100000 in
theorem dead_nil (w : World) :
    Calls Try.prog 13 #[.pointer none] w fun e w' => e = .returned (.bool true) ∧ w' = w := by
  have H1 := hid (isNone_nil w)
  go_enter Try.func13, Try.ntmps13
  go_wp2_with fail
  refine (H1.out).mono ?_
  rintro e w1 ⟨rfl, hq⟩
  rw [hq]
  clear hq w1 H1
  go_wp2
  go_ret
  exact ⟨rfl, rfl⟩

set_option maxHeartbeats 2000000 in
set_option maxRecDepth 100000 in
theorem dead_zero (b : Nat) (w : World) (h : w.cell? ⟨b, 2, none⟩ = some (.int .i64 0)) :
    Calls Try.prog 13 #[.pointer (some ⟨b, 0, none⟩)] w fun e w' => e = .returned (.bool true) ∧ w' = w := by
  have H1 := hid (isNone_zero b w h)
  go_enter Try.func13, Try.ntmps13
  go_wp2_with fail
  refine (H1.out).mono ?_
  rintro e w1 ⟨rfl, hq⟩
  rw [hq]
  clear hq w1 H1
  go_wp2
  go_ret
  exact ⟨rfl, rfl⟩

set_option maxHeartbeats 2000000 in
set_option maxRecDepth 100000 in
theorem waiting_at (b : Nat) (n : Nat) (p : Option Addr) (cap : Nat) (w : World) (h : w.cell? ⟨b, 9, none⟩ = some (.slice p n cap)) :
    Calls Try.prog 17 #[.pointer (some ⟨b, 0, none⟩)] w fun e w' => e = .returned (.int .i64 (n : Int)) ∧ w' = w := by
  go_enter Try.func17, Try.ntmps17
  go_wp2
  go_ret
  exact ⟨rfl, rfl⟩

set_option maxHeartbeats 2000000 in
set_option maxRecDepth 100000 in
theorem waiting_nil (w : World) :
    Calls Try.prog 17 #[.pointer none] w fun e w' => e = .returned (.int .i64 0) ∧ w' = w := by
  go_enter Try.func17, Try.ntmps17
  go_wp2
  go_ret
  exact ⟨rfl, rfl⟩

set_option maxHeartbeats 2000000 in
set_option maxRecDepth 100000 in
theorem flying_at (b : Nat) (n : Nat) (p : Option Addr) (cap : Nat) (w : World) (h : w.cell? ⟨b, 10, none⟩ = some (.slice p n cap)) :
    Calls Try.prog 18 #[.pointer (some ⟨b, 0, none⟩)] w fun e w' => e = .returned (.int .i64 (n : Int)) ∧ w' = w := by
  go_enter Try.func18, Try.ntmps18
  go_wp2
  go_ret
  exact ⟨rfl, rfl⟩

set_option maxHeartbeats 2000000 in
set_option maxRecDepth 100000 in
theorem flying_nil (w : World) :
    Calls Try.prog 18 #[.pointer none] w fun e w' => e = .returned (.int .i64 0) ∧ w' = w := by
  go_enter Try.func18, Try.ntmps18
  go_wp2
  go_ret
  exact ⟨rfl, rfl⟩

set_option maxHeartbeats 2000000 in
set_option maxRecDepth 100000 in
theorem room_at (b : Nat) (r : Int) (w : World) (h : w.cell? ⟨b, 4, none⟩ = some (.int .i64 r)) :
    Calls Try.prog 19 #[.pointer (some ⟨b, 0, none⟩)] w fun e w' => e = .returned (.int .i64 r) ∧ w' = w := by
  go_enter Try.func19, Try.ntmps19
  go_wp2
  go_ret
  exact ⟨rfl, rfl⟩

set_option maxHeartbeats 2000000 in
set_option maxRecDepth 100000 in
theorem room_nil (w : World) :
    Calls Try.prog 19 #[.pointer none] w fun e w' => e = .returned (.int .i64 0) ∧ w' = w := by
  go_enter Try.func19, Try.ntmps19
  go_wp2
  go_ret
  exact ⟨rfl, rfl⟩

set_option maxHeartbeats 2000000 in
set_option maxRecDepth 100000 in
theorem next_at (b : Nat) (x y : Int) (w : World) (h7 : w.cell? ⟨b, 7, none⟩ = some (.int .i64 x)) (h8 : w.cell? ⟨b, 8, none⟩ = some (.int .i64 y)) :
    Calls Try.prog 12 #[.pointer (some ⟨b, 0, none⟩)] w fun e w' => e = .returned (.tuple #[.int .i64 x, .int .i64 y]) ∧ Kept (fun _ => False) w w' := by
  go_enter Try.func12, Try.ntmps12
  go_wp2
  iterate 3
    try (go_quiet (fail))
    try go_wp2
  go_returns
  exact ⟨rfl, (Kept.refl _ w).drewN _⟩

set_option maxHeartbeats 2000000 in
set_option maxRecDepth 100000 in
theorem next_nil (w : World) :
    Calls Try.prog 12 #[.pointer none] w fun e w' => e = .returned (.tuple #[.int .i64 0, .int .i64 0]) ∧ w' = w := by
  go_enter Try.func12, Try.ntmps12
  go_wp2
  go_returns
  exact ⟨rfl, rfl⟩
end Go.Proofs.Ytoflohomnoppnaa
