/- Contracts of what turns an end's room: grow, fall, limit and Window. (Written by gen_cnpace.py.) -/
import Derived.Test.YtoflohomnoppnaaCnSmall
import Derived.Deep.QuietTactic
import Derived.BigQuiet
import Derived.Handy
namespace Go.Proofs.Ytoflohomnoppnaa
open Go.RowKit

set_option maxHeartbeats 4000000 in
set_option maxRecDepth 100000 in
theorem grow_a (b : Nat) (c : Cn) (vw vf : Value) (w : World) (h : CnB w b c vw vf) (hg : GoodN c) (h1 : c.room < c.mark) :
    Calls Try.prog 35 #[.pointer (some ⟨b, 3, none⟩)] w fun e w' => e = .returned (.tuple #[]) ∧ CnB w' b { c with room := c.room + 1 } vw vf ∧ Kept (fun i => i = b) w w' := by
  obtain ⟨c0, c1, c2, c3, c4, c5, c6, c7, c8, c9, c10, c11, c12, c13, c14, c15⟩ := h.cells
  have f3 := h.soft 3
  have f4 := h.soft 4
  have f5 := h.soft 5
  have f6 := h.soft 6
  have hr := hg.room
  have hm := hg.mark
  have hc := hg.count
  have hn := hg.win
  have HB := hid h
  have w1 : IntKind.i64.wrap (c.room + 1) = c.room + 1 := by rw [IntKind.wrap_i64]; omega
  have HB0 := hid (show CnB (w.setCell ⟨b, 4, none⟩ (.int .i64 (c.room + 1))) b { c with room := c.room + 1 } vw vf from CnB.set HB.out 4 (.int .i64 (c.room + 1)) rfl)
  have HK := hid (kept_cn (Kept.refl (fun i => i = b) w) rfl 4 (.int .i64 (c.room + 1)))
  clear h hr hm hc hn
  clear hg
  obtain ⟨queue, retry, wait, win, room, mark, count, next, come, waits, flies, owed, again, ticks, tries, dead⟩ := c
  dsimp only at *
  go_enter Try.func35, Try.ntmps35
  go_wp2
  iterate 8
    try (go_quiet (fail))
    try (go_region)
    try go_wp2
  go_returns
  exact ⟨rfl, HB0.out, ⟨HK.out.os, HK.out.tape, HK.out.output, HK.out.size, HK.out.block⟩⟩

set_option maxHeartbeats 4000000 in
set_option maxRecDepth 100000 in
theorem grow_b (b : Nat) (c : Cn) (vw vf : Value) (w : World) (h : CnB w b c vw vf) (hg : GoodN c) (h1 : ¬ c.room < c.mark) (h2 : ¬ c.room ≤ c.count + 1) :
    Calls Try.prog 35 #[.pointer (some ⟨b, 3, none⟩)] w fun e w' => e = .returned (.tuple #[]) ∧ CnB w' b { c with count := c.count + 1 } vw vf ∧ Kept (fun i => i = b) w w' := by
  obtain ⟨c0, c1, c2, c3, c4, c5, c6, c7, c8, c9, c10, c11, c12, c13, c14, c15⟩ := h.cells
  have f3 := h.soft 3
  have f4 := h.soft 4
  have f5 := h.soft 5
  have f6 := h.soft 6
  have hr := hg.room
  have hm := hg.mark
  have hc := hg.count
  have hn := hg.win
  have HB := hid h
  have w2 : IntKind.i64.wrap (c.count + 1) = c.count + 1 := by rw [IntKind.wrap_i64]; omega
  have HB0 := hid (show CnB (w.setCell ⟨b, 6, none⟩ (.int .i64 (c.count + 1))) b { c with count := c.count + 1 } vw vf from CnB.set HB.out 6 (.int .i64 (c.count + 1)) rfl)
  have HK := hid (kept_cn (Kept.refl (fun i => i = b) w) rfl 6 (.int .i64 (c.count + 1)))
  clear h hr hm hc hn
  clear hg
  obtain ⟨queue, retry, wait, win, room, mark, count, next, come, waits, flies, owed, again, ticks, tries, dead⟩ := c
  dsimp only at *
  go_enter Try.func35, Try.ntmps35
  go_wp2
  iterate 8
    try (go_quiet (fail))
    try (go_region)
    try go_wp2
  go_returns
  exact ⟨rfl, HB0.out, ⟨HK.out.os, HK.out.tape, HK.out.output, HK.out.size, HK.out.block⟩⟩

set_option maxHeartbeats 4000000 in
set_option maxRecDepth 100000 in
theorem grow_c (b : Nat) (c : Cn) (vw vf : Value) (w : World) (h : CnB w b c vw vf) (hg : GoodN c) (h1 : ¬ c.room < c.mark) (h2 : c.room ≤ c.count + 1) (h3 : c.room + 1 ≤ c.win) :
    Calls Try.prog 35 #[.pointer (some ⟨b, 3, none⟩)] w fun e w' => e = .returned (.tuple #[]) ∧ CnB w' b { c with count := 0, room := c.room + 1 } vw vf ∧ Kept (fun i => i = b) w w' := by
  obtain ⟨c0, c1, c2, c3, c4, c5, c6, c7, c8, c9, c10, c11, c12, c13, c14, c15⟩ := h.cells
  have f3 := h.soft 3
  have f4 := h.soft 4
  have f5 := h.soft 5
  have f6 := h.soft 6
  have hr := hg.room
  have hm := hg.mark
  have hc := hg.count
  have hn := hg.win
  have HB := hid h
  have w1 : IntKind.i64.wrap (c.room + 1) = c.room + 1 := by rw [IntKind.wrap_i64]; omega
  have w2 : IntKind.i64.wrap (c.count + 1) = c.count + 1 := by rw [IntKind.wrap_i64]; omega
  have h4 : ¬ c.win < c.room + 1 := by omega
  have HB0 := hid (show CnB (w.setCell ⟨b, 6, none⟩ (.int .i64 (c.count + 1))) b { c with count := c.count + 1 } vw vf from CnB.set HB.out 6 (.int .i64 (c.count + 1)) rfl)
  have HB1 := hid (show CnB ((w.setCell ⟨b, 6, none⟩ (.int .i64 (c.count + 1))).setCell ⟨b, 4, none⟩ (.int .i64 (c.room + 1))) b { c with count := c.count + 1, room := c.room + 1 } vw vf from CnB.set HB0.out 4 (.int .i64 (c.room + 1)) rfl)
  have HB2 := hid (show CnB (((w.setCell ⟨b, 6, none⟩ (.int .i64 (c.count + 1))).setCell ⟨b, 4, none⟩ (.int .i64 (c.room + 1))).setCell ⟨b, 6, none⟩ (.int .i64 (0))) b { c with count := 0, room := c.room + 1 } vw vf from CnB.set HB1.out 6 (.int .i64 (0)) rfl)
  have HK := hid (kept_cn (kept_cn (kept_cn (Kept.refl (fun i => i = b) w) rfl 6 (.int .i64 (c.count + 1))) rfl 4 (.int .i64 (c.room + 1))) rfl 6 (.int .i64 (0)))
  clear h hr hm hc hn
  clear hg
  obtain ⟨queue, retry, wait, win, room, mark, count, next, come, waits, flies, owed, again, ticks, tries, dead⟩ := c
  dsimp only at *
  go_enter Try.func35, Try.ntmps35
  go_wp2
  iterate 8
    try (go_quiet (fail))
    try (go_region)
    try go_wp2
  go_returns
  exact ⟨rfl, HB2.out, ⟨HK.out.os, HK.out.tape, HK.out.output, HK.out.size, HK.out.block⟩⟩

set_option maxHeartbeats 4000000 in
set_option maxRecDepth 100000 in
theorem grow_d (b : Nat) (c : Cn) (vw vf : Value) (w : World) (h : CnB w b c vw vf) (hg : GoodN c) (h1 : ¬ c.room < c.mark) (h2 : c.room ≤ c.count + 1) (h3 : ¬ c.room + 1 ≤ c.win) :
    Calls Try.prog 35 #[.pointer (some ⟨b, 3, none⟩)] w fun e w' => e = .returned (.tuple #[]) ∧ CnB w' b { c with count := 0, room := c.win } vw vf ∧ Kept (fun i => i = b) w w' := by
  obtain ⟨c0, c1, c2, c3, c4, c5, c6, c7, c8, c9, c10, c11, c12, c13, c14, c15⟩ := h.cells
  have f3 := h.soft 3
  have f4 := h.soft 4
  have f5 := h.soft 5
  have f6 := h.soft 6
  have hr := hg.room
  have hm := hg.mark
  have hc := hg.count
  have hn := hg.win
  have HB := hid h
  have w1 : IntKind.i64.wrap (c.room + 1) = c.room + 1 := by rw [IntKind.wrap_i64]; omega
  have w2 : IntKind.i64.wrap (c.count + 1) = c.count + 1 := by rw [IntKind.wrap_i64]; omega
  have h4 : c.win < c.room + 1 := by omega
  have HB0 := hid (show CnB (w.setCell ⟨b, 6, none⟩ (.int .i64 (c.count + 1))) b { c with count := c.count + 1 } vw vf from CnB.set HB.out 6 (.int .i64 (c.count + 1)) rfl)
  have HB1 := hid (show CnB ((w.setCell ⟨b, 6, none⟩ (.int .i64 (c.count + 1))).setCell ⟨b, 4, none⟩ (.int .i64 (c.win))) b { c with count := c.count + 1, room := c.win } vw vf from CnB.set HB0.out 4 (.int .i64 (c.win)) rfl)
  have HB2 := hid (show CnB (((w.setCell ⟨b, 6, none⟩ (.int .i64 (c.count + 1))).setCell ⟨b, 4, none⟩ (.int .i64 (c.win))).setCell ⟨b, 6, none⟩ (.int .i64 (0))) b { c with count := 0, room := c.win } vw vf from CnB.set HB1.out 6 (.int .i64 (0)) rfl)
  have HK := hid (kept_cn (kept_cn (kept_cn (Kept.refl (fun i => i = b) w) rfl 6 (.int .i64 (c.count + 1))) rfl 4 (.int .i64 (c.win))) rfl 6 (.int .i64 (0)))
  clear h hr hm hc hn
  clear hg
  obtain ⟨queue, retry, wait, win, room, mark, count, next, come, waits, flies, owed, again, ticks, tries, dead⟩ := c
  dsimp only at *
  go_enter Try.func35, Try.ntmps35
  go_wp2
  iterate 8
    try (go_quiet (fail))
    try (go_region)
    try go_wp2
  go_returns
  exact ⟨rfl, HB2.out, ⟨HK.out.os, HK.out.tape, HK.out.output, HK.out.size, HK.out.block⟩⟩

set_option maxHeartbeats 4000000 in
set_option maxRecDepth 100000 in
theorem fall_a (b : Nat) (c : Cn) (vw vf : Value) (w : World) (h : CnB w b c vw vf) (hg : GoodN c) (h1 : 1 ≤ c.room / 2) :
    Calls Try.prog 24 #[.pointer (some ⟨b, 3, none⟩)] w fun e w' => e = .returned (.tuple #[]) ∧ CnB w' b { c with mark := c.room / 2, room := 1, count := 0 } vw vf ∧ Kept (fun i => i = b) w w' := by
  obtain ⟨c0, c1, c2, c3, c4, c5, c6, c7, c8, c9, c10, c11, c12, c13, c14, c15⟩ := h.cells
  have f3 := h.soft 3
  have f4 := h.soft 4
  have f5 := h.soft 5
  have f6 := h.soft 6
  have hr := hg.room
  have hm := hg.mark
  have hc := hg.count
  have hn := hg.win
  have HB := hid h
  have w3 : c.room.tdiv 2 = c.room / 2 := Int.tdiv_eq_ediv_of_nonneg (by omega)
  have w4 : IntKind.i64.wrap (c.room / 2) = c.room / 2 := by rw [IntKind.wrap_i64]; omega
  have h2 : ¬ c.room / 2 < 1 := by omega
  have HB0 := hid (show CnB (w.setCell ⟨b, 5, none⟩ (.int .i64 (c.room / 2))) b { c with mark := c.room / 2 } vw vf from CnB.set HB.out 5 (.int .i64 (c.room / 2)) rfl)
  have HB1 := hid (show CnB ((w.setCell ⟨b, 5, none⟩ (.int .i64 (c.room / 2))).setCell ⟨b, 4, none⟩ (.int .i64 (1))) b { c with mark := c.room / 2, room := 1 } vw vf from CnB.set HB0.out 4 (.int .i64 (1)) rfl)
  have HB2 := hid (show CnB (((w.setCell ⟨b, 5, none⟩ (.int .i64 (c.room / 2))).setCell ⟨b, 4, none⟩ (.int .i64 (1))).setCell ⟨b, 6, none⟩ (.int .i64 (0))) b { c with mark := c.room / 2, room := 1, count := 0 } vw vf from CnB.set HB1.out 6 (.int .i64 (0)) rfl)
  have HK := hid (kept_cn (kept_cn (kept_cn (Kept.refl (fun i => i = b) w) rfl 5 (.int .i64 (c.room / 2))) rfl 4 (.int .i64 (1))) rfl 6 (.int .i64 (0)))
  clear h hr hm hc hn
  clear hg
  obtain ⟨queue, retry, wait, win, room, mark, count, next, come, waits, flies, owed, again, ticks, tries, dead⟩ := c
  dsimp only at *
  go_enter Try.func24, Try.ntmps24
  go_wp2
  iterate 8
    try (go_quiet (fail))
    try (go_region)
    try go_wp2
  go_returns
  exact ⟨rfl, HB2.out, ⟨HK.out.os, HK.out.tape, HK.out.output, HK.out.size, HK.out.block⟩⟩

set_option maxHeartbeats 4000000 in
set_option maxRecDepth 100000 in
theorem fall_b (b : Nat) (c : Cn) (vw vf : Value) (w : World) (h : CnB w b c vw vf) (hg : GoodN c) (h1 : ¬ 1 ≤ c.room / 2) :
    Calls Try.prog 24 #[.pointer (some ⟨b, 3, none⟩)] w fun e w' => e = .returned (.tuple #[]) ∧ CnB w' b { c with mark := 1, room := 1, count := 0 } vw vf ∧ Kept (fun i => i = b) w w' := by
  obtain ⟨c0, c1, c2, c3, c4, c5, c6, c7, c8, c9, c10, c11, c12, c13, c14, c15⟩ := h.cells
  have f3 := h.soft 3
  have f4 := h.soft 4
  have f5 := h.soft 5
  have f6 := h.soft 6
  have hr := hg.room
  have hm := hg.mark
  have hc := hg.count
  have hn := hg.win
  have HB := hid h
  have w3 : c.room.tdiv 2 = c.room / 2 := Int.tdiv_eq_ediv_of_nonneg (by omega)
  have w4 : IntKind.i64.wrap (c.room / 2) = c.room / 2 := by rw [IntKind.wrap_i64]; omega
  have h2 : c.room / 2 < 1 := by omega
  have HB0 := hid (show CnB (w.setCell ⟨b, 5, none⟩ (.int .i64 (1))) b { c with mark := 1 } vw vf from CnB.set HB.out 5 (.int .i64 (1)) rfl)
  have HB1 := hid (show CnB ((w.setCell ⟨b, 5, none⟩ (.int .i64 (1))).setCell ⟨b, 4, none⟩ (.int .i64 (1))) b { c with mark := 1, room := 1 } vw vf from CnB.set HB0.out 4 (.int .i64 (1)) rfl)
  have HB2 := hid (show CnB (((w.setCell ⟨b, 5, none⟩ (.int .i64 (1))).setCell ⟨b, 4, none⟩ (.int .i64 (1))).setCell ⟨b, 6, none⟩ (.int .i64 (0))) b { c with mark := 1, room := 1, count := 0 } vw vf from CnB.set HB1.out 6 (.int .i64 (0)) rfl)
  have HK := hid (kept_cn (kept_cn (kept_cn (Kept.refl (fun i => i = b) w) rfl 5 (.int .i64 (1))) rfl 4 (.int .i64 (1))) rfl 6 (.int .i64 (0)))
  clear h hr hm hc hn
  clear hg
  obtain ⟨queue, retry, wait, win, room, mark, count, next, come, waits, flies, owed, again, ticks, tries, dead⟩ := c
  dsimp only at *
  go_enter Try.func24, Try.ntmps24
  go_wp2
  iterate 8
    try (go_quiet (fail))
    try (go_region)
    try go_wp2
  go_returns
  exact ⟨rfl, HB2.out, ⟨HK.out.os, HK.out.tape, HK.out.output, HK.out.size, HK.out.block⟩⟩

theorem grow_any (b : Nat) (c : Cn) (vw vf : Value) (w : World) (h : CnB w b c vw vf) (hg : GoodN c) :
    Calls Try.prog 35 #[.pointer (some ⟨b, 3, none⟩)] w fun e w' => e = .returned (.tuple #[]) ∧ CnB w' b (growN c) vw vf ∧ Kept (fun i => i = b) w w' := by
  unfold growN
  by_cases h1 : c.room < c.mark
  · rw [if_pos h1]
    exact grow_a b c vw vf w h hg h1
  · rw [if_neg h1]
    by_cases h2 : c.count + 1 < c.room
    · rw [if_pos h2]
      exact grow_b b c vw vf w h hg h1 (by omega)
    · rw [if_neg h2]
      by_cases h3 : c.room + 1 ≤ c.win
      · rw [if_pos h3]
        exact grow_c b c vw vf w h hg h1 (by omega) h3
      · rw [if_neg h3]
        exact grow_d b c vw vf w h hg h1 (by omega) h3
theorem fall_any (b : Nat) (c : Cn) (vw vf : Value) (w : World) (h : CnB w b c vw vf) (hg : GoodN c) :
    Calls Try.prog 24 #[.pointer (some ⟨b, 3, none⟩)] w fun e w' => e = .returned (.tuple #[]) ∧ CnB w' b (fallN c) vw vf ∧ Kept (fun i => i = b) w w' := by
  unfold fallN
  by_cases h1 : 1 ≤ c.room / 2
  · rw [if_pos h1]
    exact fall_a b c vw vf w h hg h1
  · rw [if_neg h1]
    exact fall_b b c vw vf w h hg h1
end Go.Proofs.Ytoflohomnoppnaa
