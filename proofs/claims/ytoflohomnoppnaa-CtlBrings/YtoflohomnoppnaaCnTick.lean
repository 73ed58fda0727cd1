/- The contract of an end's Tick. (Written by gen_cntick.py.) -/
import Derived.Test.YtoflohomnoppnaaCnPace
import Derived.Deep.QuietTactic
import Derived.BigQuiet
import Derived.Handy
import Derived.Deep.CutBlock
import Derived.Deep.CutRange
import Derived.Deep.DeepCutAuto
import Derived.LoopTactic
namespace Go.Proofs.Ytoflohomnoppnaa
open Go.RowKit

theorem good_retry {c : Cn} (h : GoodN c) (hf : c.flies ≠ []) (ht : c.tries + 1 ≤ c.retry) : GoodN { c with ticks := 0, tries := c.tries + 1, again := true } :=
  { h with ticks := ⟨Int.le_refl _, by show (0 : Int) ≤ 800; omega⟩, tries := ⟨by have := h.tries; show 0 ≤ c.tries + 1; omega, ht⟩, again := fun _ => hf, early := fun _ => by show (0 : Int) ≤ 799; omega }
abbrev TickN (b : Nat) (c' : Cn) (vw vf : Value) (w : World) : Prop :=
    Calls Try.prog 11 #[.pointer (some ⟨b, 0, none⟩)] w fun e w' => e = .returned (.tuple #[]) ∧ CnB w' b c' vw vf ∧ Kept (fun i => i = b) w w'

set_option maxHeartbeats 4000000 in
set_option maxRecDepth 100000 in
theorem tick_dead (b : Nat) (c : Cn) (p : Option Addr) (cap : Nat) (vw : Value) (w : World) (h : CnB w b c vw (.slice p c.flies.length cap)) (hg : GoodN c) (hd : c.dead = true) :
    TickN b (c) vw (.slice p c.flies.length cap) w := by
  obtain ⟨c0, c1, c2, c3, c4, c5, c6, c7, c8, c9, c10, c11, c12, c13, c14, c15⟩ := h.cells
  have f12 := h.soft 12
  have f13 := h.soft 13
  have f14 := h.soft 14
  have f15 := h.soft 15
  have gt := hg.ticks
  have gw := hg.wait
  have gs := hg.tries
  have gr := hg.retry
  have H1 := hid (dead_any b c vw _ w h hg.wait.1)
  have HB := hid h
  have HK := hid (Kept.refl (fun i => i = b) w)
  clear hg h gt gw gs gr
  obtain ⟨queue, retry, wait, win, room, mark, count, next, come, waits, flies, owed, again, ticks, tries, dead⟩ := c
  dsimp only at *
  subst hd
  go_enter Try.func11, Try.ntmps11
  go_wp2_with fail
  refine (H1.out).mono ?_
  rintro e w1 ⟨rfl, hq⟩
  rw [hq]
  clear hq w1 H1
  go_wp2
  iterate 8
    try (go_quiet (fail))
    try (go_region)
    try go_wp2
  go_returns
  exact ⟨rfl, HB.out, ⟨HK.out.os, HK.out.tape, HK.out.output, HK.out.size, HK.out.block⟩⟩

set_option maxHeartbeats 4000000 in
set_option maxRecDepth 100000 in
theorem tick_none (b : Nat) (c : Cn) (p : Option Addr) (cap : Nat) (vw : Value) (w : World) (h : CnB w b c vw (.slice p c.flies.length cap)) (hg : GoodN c) (hd : c.dead = false) (hf : (c.flies.length : Int) = 0) :
    TickN b (c) vw (.slice p c.flies.length cap) w := by
  obtain ⟨c0, c1, c2, c3, c4, c5, c6, c7, c8, c9, c10, c11, c12, c13, c14, c15⟩ := h.cells
  have f12 := h.soft 12
  have f13 := h.soft 13
  have f14 := h.soft 14
  have f15 := h.soft 15
  have gt := hg.ticks
  have gw := hg.wait
  have gs := hg.tries
  have gr := hg.retry
  have H1 := hid (dead_any b c vw _ w h hg.wait.1)
  have HB := hid h
  have hf2 : ((c.flies.length : Int) == 0) = true := beq_iff_eq.2 hf
  have HK := hid (Kept.refl (fun i => i = b) w)
  clear hg h gt gw gs gr
  obtain ⟨queue, retry, wait, win, room, mark, count, next, come, waits, flies, owed, again, ticks, tries, dead⟩ := c
  dsimp only at *
  subst hd
  go_enter Try.func11, Try.ntmps11
  go_wp2_with fail
  refine (H1.out).mono ?_
  rintro e w1 ⟨rfl, hq⟩
  rw [hq]
  clear hq w1 H1
  go_wp2
  iterate 8
    try (go_quiet (fail))
    try (go_region)
    try go_wp2
  go_returns
  exact ⟨rfl, HB.out, ⟨HK.out.os, HK.out.tape, HK.out.output, HK.out.size, HK.out.block⟩⟩

set_option maxHeartbeats 4000000 in
set_option maxRecDepth 100000 in
theorem tick_c0 (b : Nat) (c : Cn) (p : Option Addr) (cap : Nat) (vw : Value) (w : World) (h : CnB w b c vw (.slice p c.flies.length cap)) (hg : GoodN c) (hd : c.dead = false) (hf : ¬ (c.flies.length : Int) = 0) (hs : c.tries = 0) (h9 : c.ticks + 1 < c.wait) :
    TickN b ({ c with ticks := c.ticks + 1 }) vw (.slice p c.flies.length cap) w := by
  obtain ⟨c0, c1, c2, c3, c4, c5, c6, c7, c8, c9, c10, c11, c12, c13, c14, c15⟩ := h.cells
  have f12 := h.soft 12
  have f13 := h.soft 13
  have f14 := h.soft 14
  have f15 := h.soft 15
  have gt := hg.ticks
  have gw := hg.wait
  have gs := hg.tries
  have gr := hg.retry
  have H1 := hid (dead_any b c vw _ w h hg.wait.1)
  have HB := hid h
  have hf2 : ((c.flies.length : Int) == 0) = false := by rw [beq_eq_false_iff_ne]; exact hf
  have w1 : IntKind.i64.wrap (c.ticks + 1) = c.ticks + 1 := by rw [IntKind.wrap_i64]; omega
  have w2 : IntKind.i64.wrap (c.wait) = c.wait := by rw [IntKind.wrap_i64]; omega
  have HB0 := hid (show CnB (w.setCell ⟨b, 13, none⟩ (.int .i64 (c.ticks + 1))) b { c with ticks := c.ticks + 1 } vw (.slice p c.flies.length cap) from CnB.set HB.out 13 (.int .i64 (c.ticks + 1)) rfl)
  have HK := hid (kept_cn (Kept.refl (fun i => i = b) w) rfl 13 (.int .i64 (c.ticks + 1)))
  clear hg h gt gw gs gr
  obtain ⟨queue, retry, wait, win, room, mark, count, next, come, waits, flies, owed, again, ticks, tries, dead⟩ := c
  dsimp only at *
  subst hd
  subst hs
  go_enter Try.func11, Try.ntmps11
  go_wp2_with fail
  refine (H1.out).mono ?_
  rintro e w1 ⟨rfl, hq⟩
  rw [hq]
  clear hq w1 H1
  go_wp2
  iterate 8
    try (go_quiet (fail))
    try (go_region)
    try go_wp2
  go_returns
  exact ⟨rfl, HB0.out, ⟨HK.out.os, HK.out.tape, HK.out.output, HK.out.size, HK.out.block⟩⟩

set_option maxHeartbeats 4000000 in
set_option maxRecDepth 100000 in
theorem tick_d0 (b : Nat) (c : Cn) (p : Option Addr) (cap : Nat) (vw : Value) (w : World) (h : CnB w b c vw (.slice p c.flies.length cap)) (hg : GoodN c) (hd : c.dead = false) (hf : ¬ (c.flies.length : Int) = 0) (hs : c.tries = 0) (h9 : ¬ c.ticks + 1 < c.wait) (h8 : c.tries = c.retry) :
    TickN b ({ c with ticks := c.ticks + 1, dead := true }) vw (.slice p c.flies.length cap) w := by
  obtain ⟨c0, c1, c2, c3, c4, c5, c6, c7, c8, c9, c10, c11, c12, c13, c14, c15⟩ := h.cells
  have f12 := h.soft 12
  have f13 := h.soft 13
  have f14 := h.soft 14
  have f15 := h.soft 15
  have gt := hg.ticks
  have gw := hg.wait
  have gs := hg.tries
  have gr := hg.retry
  have H1 := hid (dead_any b c vw _ w h hg.wait.1)
  have HB := hid h
  have hf2 : ((c.flies.length : Int) == 0) = false := by rw [beq_eq_false_iff_ne]; exact hf
  have w1 : IntKind.i64.wrap (c.ticks + 1) = c.ticks + 1 := by rw [IntKind.wrap_i64]; omega
  have w2 : IntKind.i64.wrap (c.wait) = c.wait := by rw [IntKind.wrap_i64]; omega
  have HB0 := hid (show CnB (w.setCell ⟨b, 13, none⟩ (.int .i64 (c.ticks + 1))) b { c with ticks := c.ticks + 1 } vw (.slice p c.flies.length cap) from CnB.set HB.out 13 (.int .i64 (c.ticks + 1)) rfl)
  have HB1 := hid (show CnB ((w.setCell ⟨b, 13, none⟩ (.int .i64 (c.ticks + 1))).setCell ⟨b, 15, none⟩ (.bool true)) b { c with ticks := c.ticks + 1, dead := true } vw (.slice p c.flies.length cap) from CnB.set HB0.out 15 (.bool true) rfl)
  have HK := hid (kept_cn (kept_cn (Kept.refl (fun i => i = b) w) rfl 13 (.int .i64 (c.ticks + 1))) rfl 15 (.bool true))
  clear hg h gt gw gs gr
  obtain ⟨queue, retry, wait, win, room, mark, count, next, come, waits, flies, owed, again, ticks, tries, dead⟩ := c
  dsimp only at *
  subst hd
  subst hs
  subst h8
  go_enter Try.func11, Try.ntmps11
  go_wp2_with fail
  refine (H1.out).mono ?_
  rintro e w1 ⟨rfl, hq⟩
  rw [hq]
  clear hq w1 H1
  go_wp2
  iterate 8
    try (go_quiet (fail))
    try (go_region)
    try go_wp2
  go_returns
  exact ⟨rfl, HB1.out, ⟨HK.out.os, HK.out.tape, HK.out.output, HK.out.size, HK.out.block⟩⟩

set_option maxHeartbeats 4000000 in
set_option maxRecDepth 100000 in
theorem tick_e0 (b : Nat) (c : Cn) (p : Option Addr) (cap : Nat) (vw : Value) (w : World) (h : CnB w b c vw (.slice p c.flies.length cap)) (hg : GoodN c) (hd : c.dead = false) (hf0 : ¬ (c.flies.length : Int) = 0) (hf : c.flies ≠ []) (hs : c.tries = 0) (h9 : ¬ c.ticks + 1 < c.wait) (h8 : ¬ c.tries = c.retry) :
    TickN b (fallN { c with ticks := 0, tries := c.tries + 1, again := true }) vw (.slice p c.flies.length cap) w := by
  obtain ⟨c0, c1, c2, c3, c4, c5, c6, c7, c8, c9, c10, c11, c12, c13, c14, c15⟩ := h.cells
  have f12 := h.soft 12
  have f13 := h.soft 13
  have f14 := h.soft 14
  have f15 := h.soft 15
  have gt := hg.ticks
  have gw := hg.wait
  have gs := hg.tries
  have gr := hg.retry
  have H1 := hid (dead_any b c vw _ w h hg.wait.1)
  have HB := hid h
  have hf2 : ((c.flies.length : Int) == 0) = false := by rw [beq_eq_false_iff_ne]; exact hf0
  have w1 : IntKind.i64.wrap (c.ticks + 1) = c.ticks + 1 := by rw [IntKind.wrap_i64]; omega
  have w2 : IntKind.i64.wrap (c.wait) = c.wait := by rw [IntKind.wrap_i64]; omega
  have w3 : IntKind.i64.wrap (c.tries + 1) = c.tries + 1 := by rw [IntKind.wrap_i64]; omega
  have h7 : (c.tries == c.retry) = false := by rw [beq_eq_false_iff_ne]; exact h8
  have h7b : (c.retry == c.tries) = false := by rw [beq_eq_false_iff_ne]; exact fun e => h8 e.symm
  have ht : c.tries + 1 ≤ c.retry := by omega
  have HB0 := hid (show CnB (w.setCell ⟨b, 13, none⟩ (.int .i64 (c.ticks + 1))) b { c with ticks := c.ticks + 1 } vw (.slice p c.flies.length cap) from CnB.set HB.out 13 (.int .i64 (c.ticks + 1)) rfl)
  have HB1 := hid (show CnB ((w.setCell ⟨b, 13, none⟩ (.int .i64 (c.ticks + 1))).setCell ⟨b, 14, none⟩ (.int .i64 (c.tries + 1))) b { c with ticks := c.ticks + 1, tries := c.tries + 1 } vw (.slice p c.flies.length cap) from CnB.set HB0.out 14 (.int .i64 (c.tries + 1)) rfl)
  have HB2 := hid (show CnB (((w.setCell ⟨b, 13, none⟩ (.int .i64 (c.ticks + 1))).setCell ⟨b, 14, none⟩ (.int .i64 (c.tries + 1))).setCell ⟨b, 13, none⟩ (.int .i64 (0))) b { c with ticks := 0, tries := c.tries + 1 } vw (.slice p c.flies.length cap) from CnB.set HB1.out 13 (.int .i64 (0)) rfl)
  have HB3 := hid (show CnB ((((w.setCell ⟨b, 13, none⟩ (.int .i64 (c.ticks + 1))).setCell ⟨b, 14, none⟩ (.int .i64 (c.tries + 1))).setCell ⟨b, 13, none⟩ (.int .i64 (0))).setCell ⟨b, 12, none⟩ (.bool true)) b { c with ticks := 0, tries := c.tries + 1, again := true } vw (.slice p c.flies.length cap) from CnB.set HB2.out 12 (.bool true) rfl)
  have HK := hid (kept_cn (kept_cn (kept_cn (kept_cn (Kept.refl (fun i => i = b) w) rfl 13 (.int .i64 (c.ticks + 1))) rfl 14 (.int .i64 (c.tries + 1))) rfl 13 (.int .i64 (0))) rfl 12 (.bool true))
  have HF := hid (fun W hb => fall_any b { c with ticks := 0, tries := c.tries + 1, again := true } vw (.slice p c.flies.length cap) W hb (good_retry hg hf ht))
  clear hg h gt gw gs gr
  clear hf ht HB HB0 HB1 HB2
  obtain ⟨queue, retry, wait, win, room, mark, count, next, come, waits, flies, owed, again, ticks, tries, dead⟩ := c
  dsimp only at *
  subst hd
  subst hs
  go_enter Try.func11, Try.ntmps11
  go_wp2_with fail
  refine (H1.out).mono ?_
  rintro e w1 ⟨rfl, hq⟩
  rw [hq]
  clear hq w1 H1
  go_wp2_with fail
  iterate 6
    try (go_quiet (fail))
    try (go_region)
    try (go_wp2_with fail)
  refine Calls.mono (HF.out _ ?_) ?_
  · exact HB3.out
  rintro e w1 ⟨rfl, hb, hk⟩
  go_wp2
  go_returns
  exact ⟨rfl, hb, by refine Kept.trans ?_ hk; exact ⟨HK.out.os, HK.out.tape, HK.out.output, HK.out.size, HK.out.block⟩⟩

set_option maxHeartbeats 4000000 in
set_option maxRecDepth 100000 in
theorem tick_c1 (b : Nat) (c : Cn) (p : Option Addr) (cap : Nat) (vw : Value) (w : World) (h : CnB w b c vw (.slice p c.flies.length cap)) (hg : GoodN c) (hd : c.dead = false) (hf : ¬ (c.flies.length : Int) = 0) (hs : c.tries = 1) (h9 : c.ticks + 1 < c.wait * 2) :
    TickN b ({ c with ticks := c.ticks + 1 }) vw (.slice p c.flies.length cap) w := by
  obtain ⟨c0, c1, c2, c3, c4, c5, c6, c7, c8, c9, c10, c11, c12, c13, c14, c15⟩ := h.cells
  have f12 := h.soft 12
  have f13 := h.soft 13
  have f14 := h.soft 14
  have f15 := h.soft 15
  have gt := hg.ticks
  have gw := hg.wait
  have gs := hg.tries
  have gr := hg.retry
  have H1 := hid (dead_any b c vw _ w h hg.wait.1)
  have HB := hid h
  have hf2 : ((c.flies.length : Int) == 0) = false := by rw [beq_eq_false_iff_ne]; exact hf
  have w1 : IntKind.i64.wrap (c.ticks + 1) = c.ticks + 1 := by rw [IntKind.wrap_i64]; omega
  have w2 : IntKind.i64.wrap (c.wait * 2) = c.wait * 2 := by rw [IntKind.wrap_i64]; omega
  have HB0 := hid (show CnB (w.setCell ⟨b, 13, none⟩ (.int .i64 (c.ticks + 1))) b { c with ticks := c.ticks + 1 } vw (.slice p c.flies.length cap) from CnB.set HB.out 13 (.int .i64 (c.ticks + 1)) rfl)
  have HK := hid (kept_cn (Kept.refl (fun i => i = b) w) rfl 13 (.int .i64 (c.ticks + 1)))
  clear hg h gt gw gs gr
  obtain ⟨queue, retry, wait, win, room, mark, count, next, come, waits, flies, owed, again, ticks, tries, dead⟩ := c
  dsimp only at *
  subst hd
  subst hs
  go_enter Try.func11, Try.ntmps11
  go_wp2_with fail
  refine (H1.out).mono ?_
  rintro e w1 ⟨rfl, hq⟩
  rw [hq]
  clear hq w1 H1
  go_wp2
  iterate 8
    try (go_quiet (fail))
    try (go_region)
    try go_wp2
  go_returns
  exact ⟨rfl, HB0.out, ⟨HK.out.os, HK.out.tape, HK.out.output, HK.out.size, HK.out.block⟩⟩

set_option maxHeartbeats 4000000 in
set_option maxRecDepth 100000 in
theorem tick_d1 (b : Nat) (c : Cn) (p : Option Addr) (cap : Nat) (vw : Value) (w : World) (h : CnB w b c vw (.slice p c.flies.length cap)) (hg : GoodN c) (hd : c.dead = false) (hf : ¬ (c.flies.length : Int) = 0) (hs : c.tries = 1) (h9 : ¬ c.ticks + 1 < c.wait * 2) (h8 : c.tries = c.retry) :
    TickN b ({ c with ticks := c.ticks + 1, dead := true }) vw (.slice p c.flies.length cap) w := by
  obtain ⟨c0, c1, c2, c3, c4, c5, c6, c7, c8, c9, c10, c11, c12, c13, c14, c15⟩ := h.cells
  have f12 := h.soft 12
  have f13 := h.soft 13
  have f14 := h.soft 14
  have f15 := h.soft 15
  have gt := hg.ticks
  have gw := hg.wait
  have gs := hg.tries
  have gr := hg.retry
  have H1 := hid (dead_any b c vw _ w h hg.wait.1)
  have HB := hid h
  have hf2 : ((c.flies.length : Int) == 0) = false := by rw [beq_eq_false_iff_ne]; exact hf
  have w1 : IntKind.i64.wrap (c.ticks + 1) = c.ticks + 1 := by rw [IntKind.wrap_i64]; omega
  have w2 : IntKind.i64.wrap (c.wait * 2) = c.wait * 2 := by rw [IntKind.wrap_i64]; omega
  have HB0 := hid (show CnB (w.setCell ⟨b, 13, none⟩ (.int .i64 (c.ticks + 1))) b { c with ticks := c.ticks + 1 } vw (.slice p c.flies.length cap) from CnB.set HB.out 13 (.int .i64 (c.ticks + 1)) rfl)
  have HB1 := hid (show CnB ((w.setCell ⟨b, 13, none⟩ (.int .i64 (c.ticks + 1))).setCell ⟨b, 15, none⟩ (.bool true)) b { c with ticks := c.ticks + 1, dead := true } vw (.slice p c.flies.length cap) from CnB.set HB0.out 15 (.bool true) rfl)
  have HK := hid (kept_cn (kept_cn (Kept.refl (fun i => i = b) w) rfl 13 (.int .i64 (c.ticks + 1))) rfl 15 (.bool true))
  clear hg h gt gw gs gr
  obtain ⟨queue, retry, wait, win, room, mark, count, next, come, waits, flies, owed, again, ticks, tries, dead⟩ := c
  dsimp only at *
  subst hd
  subst hs
  subst h8
  go_enter Try.func11, Try.ntmps11
  go_wp2_with fail
  refine (H1.out).mono ?_
  rintro e w1 ⟨rfl, hq⟩
  rw [hq]
  clear hq w1 H1
  go_wp2
  iterate 8
    try (go_quiet (fail))
    try (go_region)
    try go_wp2
  go_returns
  exact ⟨rfl, HB1.out, ⟨HK.out.os, HK.out.tape, HK.out.output, HK.out.size, HK.out.block⟩⟩

set_option maxHeartbeats 4000000 in
set_option maxRecDepth 100000 in
theorem tick_e1 (b : Nat) (c : Cn) (p : Option Addr) (cap : Nat) (vw : Value) (w : World) (h : CnB w b c vw (.slice p c.flies.length cap)) (hg : GoodN c) (hd : c.dead = false) (hf0 : ¬ (c.flies.length : Int) = 0) (hf : c.flies ≠ []) (hs : c.tries = 1) (h9 : ¬ c.ticks + 1 < c.wait * 2) (h8 : ¬ c.tries = c.retry) :
    TickN b (fallN { c with ticks := 0, tries := c.tries + 1, again := true }) vw (.slice p c.flies.length cap) w := by
  obtain ⟨c0, c1, c2, c3, c4, c5, c6, c7, c8, c9, c10, c11, c12, c13, c14, c15⟩ := h.cells
  have f12 := h.soft 12
  have f13 := h.soft 13
  have f14 := h.soft 14
  have f15 := h.soft 15
  have gt := hg.ticks
  have gw := hg.wait
  have gs := hg.tries
  have gr := hg.retry
  have H1 := hid (dead_any b c vw _ w h hg.wait.1)
  have HB := hid h
  have hf2 : ((c.flies.length : Int) == 0) = false := by rw [beq_eq_false_iff_ne]; exact hf0
  have w1 : IntKind.i64.wrap (c.ticks + 1) = c.ticks + 1 := by rw [IntKind.wrap_i64]; omega
  have w2 : IntKind.i64.wrap (c.wait * 2) = c.wait * 2 := by rw [IntKind.wrap_i64]; omega
  have w3 : IntKind.i64.wrap (c.tries + 1) = c.tries + 1 := by rw [IntKind.wrap_i64]; omega
  have h7 : (c.tries == c.retry) = false := by rw [beq_eq_false_iff_ne]; exact h8
  have h7b : (c.retry == c.tries) = false := by rw [beq_eq_false_iff_ne]; exact fun e => h8 e.symm
  have ht : c.tries + 1 ≤ c.retry := by omega
  have HB0 := hid (show CnB (w.setCell ⟨b, 13, none⟩ (.int .i64 (c.ticks + 1))) b { c with ticks := c.ticks + 1 } vw (.slice p c.flies.length cap) from CnB.set HB.out 13 (.int .i64 (c.ticks + 1)) rfl)
  have HB1 := hid (show CnB ((w.setCell ⟨b, 13, none⟩ (.int .i64 (c.ticks + 1))).setCell ⟨b, 14, none⟩ (.int .i64 (c.tries + 1))) b { c with ticks := c.ticks + 1, tries := c.tries + 1 } vw (.slice p c.flies.length cap) from CnB.set HB0.out 14 (.int .i64 (c.tries + 1)) rfl)
  have HB2 := hid (show CnB (((w.setCell ⟨b, 13, none⟩ (.int .i64 (c.ticks + 1))).setCell ⟨b, 14, none⟩ (.int .i64 (c.tries + 1))).setCell ⟨b, 13, none⟩ (.int .i64 (0))) b { c with ticks := 0, tries := c.tries + 1 } vw (.slice p c.flies.length cap) from CnB.set HB1.out 13 (.int .i64 (0)) rfl)
  have HB3 := hid (show CnB ((((w.setCell ⟨b, 13, none⟩ (.int .i64 (c.ticks + 1))).setCell ⟨b, 14, none⟩ (.int .i64 (c.tries + 1))).setCell ⟨b, 13, none⟩ (.int .i64 (0))).setCell ⟨b, 12, none⟩ (.bool true)) b { c with ticks := 0, tries := c.tries + 1, again := true } vw (.slice p c.flies.length cap) from CnB.set HB2.out 12 (.bool true) rfl)
  have HK := hid (kept_cn (kept_cn (kept_cn (kept_cn (Kept.refl (fun i => i = b) w) rfl 13 (.int .i64 (c.ticks + 1))) rfl 14 (.int .i64 (c.tries + 1))) rfl 13 (.int .i64 (0))) rfl 12 (.bool true))
  have HF := hid (fun W hb => fall_any b { c with ticks := 0, tries := c.tries + 1, again := true } vw (.slice p c.flies.length cap) W hb (good_retry hg hf ht))
  clear hg h gt gw gs gr
  clear hf ht HB HB0 HB1 HB2
  obtain ⟨queue, retry, wait, win, room, mark, count, next, come, waits, flies, owed, again, ticks, tries, dead⟩ := c
  dsimp only at *
  subst hd
  subst hs
  go_enter Try.func11, Try.ntmps11
  go_wp2_with fail
  refine (H1.out).mono ?_
  rintro e w1 ⟨rfl, hq⟩
  rw [hq]
  clear hq w1 H1
  go_wp2_with fail
  iterate 6
    try (go_quiet (fail))
    try (go_region)
    try (go_wp2_with fail)
  refine Calls.mono (HF.out _ ?_) ?_
  · exact HB3.out
  rintro e w1 ⟨rfl, hb, hk⟩
  go_wp2
  go_returns
  exact ⟨rfl, hb, by refine Kept.trans ?_ hk; exact ⟨HK.out.os, HK.out.tape, HK.out.output, HK.out.size, HK.out.block⟩⟩

set_option maxHeartbeats 4000000 in
set_option maxRecDepth 100000 in
theorem tick_c2 (b : Nat) (c : Cn) (p : Option Addr) (cap : Nat) (vw : Value) (w : World) (h : CnB w b c vw (.slice p c.flies.length cap)) (hg : GoodN c) (hd : c.dead = false) (hf : ¬ (c.flies.length : Int) = 0) (hs : c.tries = 2) (h9 : c.ticks + 1 < c.wait * 4) :
    TickN b ({ c with ticks := c.ticks + 1 }) vw (.slice p c.flies.length cap) w := by
  obtain ⟨c0, c1, c2, c3, c4, c5, c6, c7, c8, c9, c10, c11, c12, c13, c14, c15⟩ := h.cells
  have f12 := h.soft 12
  have f13 := h.soft 13
  have f14 := h.soft 14
  have f15 := h.soft 15
  have gt := hg.ticks
  have gw := hg.wait
  have gs := hg.tries
  have gr := hg.retry
  have H1 := hid (dead_any b c vw _ w h hg.wait.1)
  have HB := hid h
  have hf2 : ((c.flies.length : Int) == 0) = false := by rw [beq_eq_false_iff_ne]; exact hf
  have w1 : IntKind.i64.wrap (c.ticks + 1) = c.ticks + 1 := by rw [IntKind.wrap_i64]; omega
  have w2 : IntKind.i64.wrap (c.wait * 4) = c.wait * 4 := by rw [IntKind.wrap_i64]; omega
  have HB0 := hid (show CnB (w.setCell ⟨b, 13, none⟩ (.int .i64 (c.ticks + 1))) b { c with ticks := c.ticks + 1 } vw (.slice p c.flies.length cap) from CnB.set HB.out 13 (.int .i64 (c.ticks + 1)) rfl)
  have HK := hid (kept_cn (Kept.refl (fun i => i = b) w) rfl 13 (.int .i64 (c.ticks + 1)))
  clear hg h gt gw gs gr
  obtain ⟨queue, retry, wait, win, room, mark, count, next, come, waits, flies, owed, again, ticks, tries, dead⟩ := c
  dsimp only at *
  subst hd
  subst hs
  go_enter Try.func11, Try.ntmps11
  go_wp2_with fail
  refine (H1.out).mono ?_
  rintro e w1 ⟨rfl, hq⟩
  rw [hq]
  clear hq w1 H1
  go_wp2
  iterate 8
    try (go_quiet (fail))
    try (go_region)
    try go_wp2
  go_returns
  exact ⟨rfl, HB0.out, ⟨HK.out.os, HK.out.tape, HK.out.output, HK.out.size, HK.out.block⟩⟩

set_option maxHeartbeats 4000000 in
set_option maxRecDepth 100000 in
theorem tick_d2 (b : Nat) (c : Cn) (p : Option Addr) (cap : Nat) (vw : Value) (w : World) (h : CnB w b c vw (.slice p c.flies.length cap)) (hg : GoodN c) (hd : c.dead = false) (hf : ¬ (c.flies.length : Int) = 0) (hs : c.tries = 2) (h9 : ¬ c.ticks + 1 < c.wait * 4) (h8 : c.tries = c.retry) :
    TickN b ({ c with ticks := c.ticks + 1, dead := true }) vw (.slice p c.flies.length cap) w := by
  obtain ⟨c0, c1, c2, c3, c4, c5, c6, c7, c8, c9, c10, c11, c12, c13, c14, c15⟩ := h.cells
  have f12 := h.soft 12
  have f13 := h.soft 13
  have f14 := h.soft 14
  have f15 := h.soft 15
  have gt := hg.ticks
  have gw := hg.wait
  have gs := hg.tries
  have gr := hg.retry
  have H1 := hid (dead_any b c vw _ w h hg.wait.1)
  have HB := hid h
  have hf2 : ((c.flies.length : Int) == 0) = false := by rw [beq_eq_false_iff_ne]; exact hf
  have w1 : IntKind.i64.wrap (c.ticks + 1) = c.ticks + 1 := by rw [IntKind.wrap_i64]; omega
  have w2 : IntKind.i64.wrap (c.wait * 4) = c.wait * 4 := by rw [IntKind.wrap_i64]; omega
  have HB0 := hid (show CnB (w.setCell ⟨b, 13, none⟩ (.int .i64 (c.ticks + 1))) b { c with ticks := c.ticks + 1 } vw (.slice p c.flies.length cap) from CnB.set HB.out 13 (.int .i64 (c.ticks + 1)) rfl)
  have HB1 := hid (show CnB ((w.setCell ⟨b, 13, none⟩ (.int .i64 (c.ticks + 1))).setCell ⟨b, 15, none⟩ (.bool true)) b { c with ticks := c.ticks + 1, dead := true } vw (.slice p c.flies.length cap) from CnB.set HB0.out 15 (.bool true) rfl)
  have HK := hid (kept_cn (kept_cn (Kept.refl (fun i => i = b) w) rfl 13 (.int .i64 (c.ticks + 1))) rfl 15 (.bool true))
  clear hg h gt gw gs gr
  obtain ⟨queue, retry, wait, win, room, mark, count, next, come, waits, flies, owed, again, ticks, tries, dead⟩ := c
  dsimp only at *
  subst hd
  subst hs
  subst h8
  go_enter Try.func11, Try.ntmps11
  go_wp2_with fail
  refine (H1.out).mono ?_
  rintro e w1 ⟨rfl, hq⟩
  rw [hq]
  clear hq w1 H1
  go_wp2
  iterate 8
    try (go_quiet (fail))
    try (go_region)
    try go_wp2
  go_returns
  exact ⟨rfl, HB1.out, ⟨HK.out.os, HK.out.tape, HK.out.output, HK.out.size, HK.out.block⟩⟩

set_option maxHeartbeats 4000000 in
set_option maxRecDepth 100000 in
theorem tick_e2 (b : Nat) (c : Cn) (p : Option Addr) (cap : Nat) (vw : Value) (w : World) (h : CnB w b c vw (.slice p c.flies.length cap)) (hg : GoodN c) (hd : c.dead = false) (hf0 : ¬ (c.flies.length : Int) = 0) (hf : c.flies ≠ []) (hs : c.tries = 2) (h9 : ¬ c.ticks + 1 < c.wait * 4) (h8 : ¬ c.tries = c.retry) :
    TickN b (fallN { c with ticks := 0, tries := c.tries + 1, again := true }) vw (.slice p c.flies.length cap) w := by
  obtain ⟨c0, c1, c2, c3, c4, c5, c6, c7, c8, c9, c10, c11, c12, c13, c14, c15⟩ := h.cells
  have f12 := h.soft 12
  have f13 := h.soft 13
  have f14 := h.soft 14
  have f15 := h.soft 15
  have gt := hg.ticks
  have gw := hg.wait
  have gs := hg.tries
  have gr := hg.retry
  have H1 := hid (dead_any b c vw _ w h hg.wait.1)
  have HB := hid h
  have hf2 : ((c.flies.length : Int) == 0) = false := by rw [beq_eq_false_iff_ne]; exact hf0
  have w1 : IntKind.i64.wrap (c.ticks + 1) = c.ticks + 1 := by rw [IntKind.wrap_i64]; omega
  have w2 : IntKind.i64.wrap (c.wait * 4) = c.wait * 4 := by rw [IntKind.wrap_i64]; omega
  have w3 : IntKind.i64.wrap (c.tries + 1) = c.tries + 1 := by rw [IntKind.wrap_i64]; omega
  have h7 : (c.tries == c.retry) = false := by rw [beq_eq_false_iff_ne]; exact h8
  have h7b : (c.retry == c.tries) = false := by rw [beq_eq_false_iff_ne]; exact fun e => h8 e.symm
  have ht : c.tries + 1 ≤ c.retry := by omega
  have HB0 := hid (show CnB (w.setCell ⟨b, 13, none⟩ (.int .i64 (c.ticks + 1))) b { c with ticks := c.ticks + 1 } vw (.slice p c.flies.length cap) from CnB.set HB.out 13 (.int .i64 (c.ticks + 1)) rfl)
  have HB1 := hid (show CnB ((w.setCell ⟨b, 13, none⟩ (.int .i64 (c.ticks + 1))).setCell ⟨b, 14, none⟩ (.int .i64 (c.tries + 1))) b { c with ticks := c.ticks + 1, tries := c.tries + 1 } vw (.slice p c.flies.length cap) from CnB.set HB0.out 14 (.int .i64 (c.tries + 1)) rfl)
  have HB2 := hid (show CnB (((w.setCell ⟨b, 13, none⟩ (.int .i64 (c.ticks + 1))).setCell ⟨b, 14, none⟩ (.int .i64 (c.tries + 1))).setCell ⟨b, 13, none⟩ (.int .i64 (0))) b { c with ticks := 0, tries := c.tries + 1 } vw (.slice p c.flies.length cap) from CnB.set HB1.out 13 (.int .i64 (0)) rfl)
  have HB3 := hid (show CnB ((((w.setCell ⟨b, 13, none⟩ (.int .i64 (c.ticks + 1))).setCell ⟨b, 14, none⟩ (.int .i64 (c.tries + 1))).setCell ⟨b, 13, none⟩ (.int .i64 (0))).setCell ⟨b, 12, none⟩ (.bool true)) b { c with ticks := 0, tries := c.tries + 1, again := true } vw (.slice p c.flies.length cap) from CnB.set HB2.out 12 (.bool true) rfl)
  have HK := hid (kept_cn (kept_cn (kept_cn (kept_cn (Kept.refl (fun i => i = b) w) rfl 13 (.int .i64 (c.ticks + 1))) rfl 14 (.int .i64 (c.tries + 1))) rfl 13 (.int .i64 (0))) rfl 12 (.bool true))
  have HF := hid (fun W hb => fall_any b { c with ticks := 0, tries := c.tries + 1, again := true } vw (.slice p c.flies.length cap) W hb (good_retry hg hf ht))
  clear hg h gt gw gs gr
  clear hf ht HB HB0 HB1 HB2
  obtain ⟨queue, retry, wait, win, room, mark, count, next, come, waits, flies, owed, again, ticks, tries, dead⟩ := c
  dsimp only at *
  subst hd
  subst hs
  go_enter Try.func11, Try.ntmps11
  go_wp2_with fail
  refine (H1.out).mono ?_
  rintro e w1 ⟨rfl, hq⟩
  rw [hq]
  clear hq w1 H1
  go_wp2_with fail
  iterate 6
    try (go_quiet (fail))
    try (go_region)
    try (go_wp2_with fail)
  refine Calls.mono (HF.out _ ?_) ?_
  · exact HB3.out
  rintro e w1 ⟨rfl, hb, hk⟩
  go_wp2
  go_returns
  exact ⟨rfl, hb, by refine Kept.trans ?_ hk; exact ⟨HK.out.os, HK.out.tape, HK.out.output, HK.out.size, HK.out.block⟩⟩

set_option maxHeartbeats 4000000 in
set_option maxRecDepth 100000 in
theorem tick_c3 (b : Nat) (c : Cn) (p : Option Addr) (cap : Nat) (vw : Value) (w : World) (h : CnB w b c vw (.slice p c.flies.length cap)) (hg : GoodN c) (hd : c.dead = false) (hf : ¬ (c.flies.length : Int) = 0) (hs : c.tries = 3) (h9 : c.ticks + 1 < c.wait * 8) :
    TickN b ({ c with ticks := c.ticks + 1 }) vw (.slice p c.flies.length cap) w := by
  obtain ⟨c0, c1, c2, c3, c4, c5, c6, c7, c8, c9, c10, c11, c12, c13, c14, c15⟩ := h.cells
  have f12 := h.soft 12
  have f13 := h.soft 13
  have f14 := h.soft 14
  have f15 := h.soft 15
  have gt := hg.ticks
  have gw := hg.wait
  have gs := hg.tries
  have gr := hg.retry
  have H1 := hid (dead_any b c vw _ w h hg.wait.1)
  have HB := hid h
  have hf2 : ((c.flies.length : Int) == 0) = false := by rw [beq_eq_false_iff_ne]; exact hf
  have w1 : IntKind.i64.wrap (c.ticks + 1) = c.ticks + 1 := by rw [IntKind.wrap_i64]; omega
  have w2 : IntKind.i64.wrap (c.wait * 8) = c.wait * 8 := by rw [IntKind.wrap_i64]; omega
  have HB0 := hid (show CnB (w.setCell ⟨b, 13, none⟩ (.int .i64 (c.ticks + 1))) b { c with ticks := c.ticks + 1 } vw (.slice p c.flies.length cap) from CnB.set HB.out 13 (.int .i64 (c.ticks + 1)) rfl)
  have HK := hid (kept_cn (Kept.refl (fun i => i = b) w) rfl 13 (.int .i64 (c.ticks + 1)))
  clear hg h gt gw gs gr
  obtain ⟨queue, retry, wait, win, room, mark, count, next, come, waits, flies, owed, again, ticks, tries, dead⟩ := c
  dsimp only at *
  subst hd
  subst hs
  go_enter Try.func11, Try.ntmps11
  go_wp2_with fail
  refine (H1.out).mono ?_
  rintro e w1 ⟨rfl, hq⟩
  rw [hq]
  clear hq w1 H1
  go_wp2
  iterate 8
    try (go_quiet (fail))
    try (go_region)
    try go_wp2
  go_returns
  exact ⟨rfl, HB0.out, ⟨HK.out.os, HK.out.tape, HK.out.output, HK.out.size, HK.out.block⟩⟩

set_option maxHeartbeats 4000000 in
set_option maxRecDepth 100000 in
theorem tick_d3 (b : Nat) (c : Cn) (p : Option Addr) (cap : Nat) (vw : Value) (w : World) (h : CnB w b c vw (.slice p c.flies.length cap)) (hg : GoodN c) (hd : c.dead = false) (hf : ¬ (c.flies.length : Int) = 0) (hs : c.tries = 3) (h9 : ¬ c.ticks + 1 < c.wait * 8) (h8 : c.tries = c.retry) :
    TickN b ({ c with ticks := c.ticks + 1, dead := true }) vw (.slice p c.flies.length cap) w := by
  obtain ⟨c0, c1, c2, c3, c4, c5, c6, c7, c8, c9, c10, c11, c12, c13, c14, c15⟩ := h.cells
  have f12 := h.soft 12
  have f13 := h.soft 13
  have f14 := h.soft 14
  have f15 := h.soft 15
  have gt := hg.ticks
  have gw := hg.wait
  have gs := hg.tries
  have gr := hg.retry
  have H1 := hid (dead_any b c vw _ w h hg.wait.1)
  have HB := hid h
  have hf2 : ((c.flies.length : Int) == 0) = false := by rw [beq_eq_false_iff_ne]; exact hf
  have w1 : IntKind.i64.wrap (c.ticks + 1) = c.ticks + 1 := by rw [IntKind.wrap_i64]; omega
  have w2 : IntKind.i64.wrap (c.wait * 8) = c.wait * 8 := by rw [IntKind.wrap_i64]; omega
  have HB0 := hid (show CnB (w.setCell ⟨b, 13, none⟩ (.int .i64 (c.ticks + 1))) b { c with ticks := c.ticks + 1 } vw (.slice p c.flies.length cap) from CnB.set HB.out 13 (.int .i64 (c.ticks + 1)) rfl)
  have HB1 := hid (show CnB ((w.setCell ⟨b, 13, none⟩ (.int .i64 (c.ticks + 1))).setCell ⟨b, 15, none⟩ (.bool true)) b { c with ticks := c.ticks + 1, dead := true } vw (.slice p c.flies.length cap) from CnB.set HB0.out 15 (.bool true) rfl)
  have HK := hid (kept_cn (kept_cn (Kept.refl (fun i => i = b) w) rfl 13 (.int .i64 (c.ticks + 1))) rfl 15 (.bool true))
  clear hg h gt gw gs gr
  obtain ⟨queue, retry, wait, win, room, mark, count, next, come, waits, flies, owed, again, ticks, tries, dead⟩ := c
  dsimp only at *
  subst hd
  subst hs
  subst h8
  go_enter Try.func11, Try.ntmps11
  go_wp2_with fail
  refine (H1.out).mono ?_
  rintro e w1 ⟨rfl, hq⟩
  rw [hq]
  clear hq w1 H1
  go_wp2
  iterate 8
    try (go_quiet (fail))
    try (go_region)
    try go_wp2
  go_returns
  exact ⟨rfl, HB1.out, ⟨HK.out.os, HK.out.tape, HK.out.output, HK.out.size, HK.out.block⟩⟩

set_option maxHeartbeats 4000000 in
set_option maxRecDepth 100000 in
theorem tick_e3 (b : Nat) (c : Cn) (p : Option Addr) (cap : Nat) (vw : Value) (w : World) (h : CnB w b c vw (.slice p c.flies.length cap)) (hg : GoodN c) (hd : c.dead = false) (hf0 : ¬ (c.flies.length : Int) = 0) (hf : c.flies ≠ []) (hs : c.tries = 3) (h9 : ¬ c.ticks + 1 < c.wait * 8) (h8 : ¬ c.tries = c.retry) :
    TickN b (fallN { c with ticks := 0, tries := c.tries + 1, again := true }) vw (.slice p c.flies.length cap) w := by
  obtain ⟨c0, c1, c2, c3, c4, c5, c6, c7, c8, c9, c10, c11, c12, c13, c14, c15⟩ := h.cells
  have f12 := h.soft 12
  have f13 := h.soft 13
  have f14 := h.soft 14
  have f15 := h.soft 15
  have gt := hg.ticks
  have gw := hg.wait
  have gs := hg.tries
  have gr := hg.retry
  have H1 := hid (dead_any b c vw _ w h hg.wait.1)
  have HB := hid h
  have hf2 : ((c.flies.length : Int) == 0) = false := by rw [beq_eq_false_iff_ne]; exact hf0
  have w1 : IntKind.i64.wrap (c.ticks + 1) = c.ticks + 1 := by rw [IntKind.wrap_i64]; omega
  have w2 : IntKind.i64.wrap (c.wait * 8) = c.wait * 8 := by rw [IntKind.wrap_i64]; omega
  have w3 : IntKind.i64.wrap (c.tries + 1) = c.tries + 1 := by rw [IntKind.wrap_i64]; omega
  have h7 : (c.tries == c.retry) = false := by rw [beq_eq_false_iff_ne]; exact h8
  have h7b : (c.retry == c.tries) = false := by rw [beq_eq_false_iff_ne]; exact fun e => h8 e.symm
  have ht : c.tries + 1 ≤ c.retry := by omega
  have HB0 := hid (show CnB (w.setCell ⟨b, 13, none⟩ (.int .i64 (c.ticks + 1))) b { c with ticks := c.ticks + 1 } vw (.slice p c.flies.length cap) from CnB.set HB.out 13 (.int .i64 (c.ticks + 1)) rfl)
  have HB1 := hid (show CnB ((w.setCell ⟨b, 13, none⟩ (.int .i64 (c.ticks + 1))).setCell ⟨b, 14, none⟩ (.int .i64 (c.tries + 1))) b { c with ticks := c.ticks + 1, tries := c.tries + 1 } vw (.slice p c.flies.length cap) from CnB.set HB0.out 14 (.int .i64 (c.tries + 1)) rfl)
  have HB2 := hid (show CnB (((w.setCell ⟨b, 13, none⟩ (.int .i64 (c.ticks + 1))).setCell ⟨b, 14, none⟩ (.int .i64 (c.tries + 1))).setCell ⟨b, 13, none⟩ (.int .i64 (0))) b { c with ticks := 0, tries := c.tries + 1 } vw (.slice p c.flies.length cap) from CnB.set HB1.out 13 (.int .i64 (0)) rfl)
  have HB3 := hid (show CnB ((((w.setCell ⟨b, 13, none⟩ (.int .i64 (c.ticks + 1))).setCell ⟨b, 14, none⟩ (.int .i64 (c.tries + 1))).setCell ⟨b, 13, none⟩ (.int .i64 (0))).setCell ⟨b, 12, none⟩ (.bool true)) b { c with ticks := 0, tries := c.tries + 1, again := true } vw (.slice p c.flies.length cap) from CnB.set HB2.out 12 (.bool true) rfl)
  have HK := hid (kept_cn (kept_cn (kept_cn (kept_cn (Kept.refl (fun i => i = b) w) rfl 13 (.int .i64 (c.ticks + 1))) rfl 14 (.int .i64 (c.tries + 1))) rfl 13 (.int .i64 (0))) rfl 12 (.bool true))
  have HF := hid (fun W hb => fall_any b { c with ticks := 0, tries := c.tries + 1, again := true } vw (.slice p c.flies.length cap) W hb (good_retry hg hf ht))
  clear hg h gt gw gs gr
  clear hf ht HB HB0 HB1 HB2
  obtain ⟨queue, retry, wait, win, room, mark, count, next, come, waits, flies, owed, again, ticks, tries, dead⟩ := c
  dsimp only at *
  subst hd
  subst hs
  go_enter Try.func11, Try.ntmps11
  go_wp2_with fail
  refine (H1.out).mono ?_
  rintro e w1 ⟨rfl, hq⟩
  rw [hq]
  clear hq w1 H1
  go_wp2_with fail
  iterate 6
    try (go_quiet (fail))
    try (go_region)
    try (go_wp2_with fail)
  refine Calls.mono (HF.out _ ?_) ?_
  · exact HB3.out
  rintro e w1 ⟨rfl, hb, hk⟩
  go_wp2
  go_returns
  exact ⟨rfl, hb, by refine Kept.trans ?_ hk; exact ⟨HK.out.os, HK.out.tape, HK.out.output, HK.out.size, HK.out.block⟩⟩

set_option maxHeartbeats 4000000 in
set_option maxRecDepth 100000 in
theorem tick_c4 (b : Nat) (c : Cn) (p : Option Addr) (cap : Nat) (vw : Value) (w : World) (h : CnB w b c vw (.slice p c.flies.length cap)) (hg : GoodN c) (hd : c.dead = false) (hf : ¬ (c.flies.length : Int) = 0) (hs4 : 3 < c.tries) (h9 : c.ticks + 1 < c.wait * 8) :
    TickN b ({ c with ticks := c.ticks + 1 }) vw (.slice p c.flies.length cap) w := by
  obtain ⟨c0, c1, c2, c3, c4, c5, c6, c7, c8, c9, c10, c11, c12, c13, c14, c15⟩ := h.cells
  have f12 := h.soft 12
  have f13 := h.soft 13
  have f14 := h.soft 14
  have f15 := h.soft 15
  have gt := hg.ticks
  have gw := hg.wait
  have gs := hg.tries
  have gr := hg.retry
  have H1 := hid (dead_any b c vw _ w h hg.wait.1)
  have HB := hid h
  have hf2 : ((c.flies.length : Int) == 0) = false := by rw [beq_eq_false_iff_ne]; exact hf
  have w1 : IntKind.i64.wrap (c.ticks + 1) = c.ticks + 1 := by rw [IntKind.wrap_i64]; omega
  have w2 : IntKind.i64.wrap (c.wait * 8) = c.wait * 8 := by rw [IntKind.wrap_i64]; omega
  have h3 : ¬ c.tries < 3 := by omega
  have h3b : ¬ c.tries ≤ 3 := by omega
  have HB0 := hid (show CnB (w.setCell ⟨b, 13, none⟩ (.int .i64 (c.ticks + 1))) b { c with ticks := c.ticks + 1 } vw (.slice p c.flies.length cap) from CnB.set HB.out 13 (.int .i64 (c.ticks + 1)) rfl)
  have HK := hid (kept_cn (Kept.refl (fun i => i = b) w) rfl 13 (.int .i64 (c.ticks + 1)))
  clear hg h gt gw gs gr
  obtain ⟨queue, retry, wait, win, room, mark, count, next, come, waits, flies, owed, again, ticks, tries, dead⟩ := c
  dsimp only at *
  subst hd
  go_enter Try.func11, Try.ntmps11
  go_wp2_with fail
  refine (H1.out).mono ?_
  rintro e w1 ⟨rfl, hq⟩
  rw [hq]
  clear hq w1 H1
  go_wp2
  iterate 8
    try (go_quiet (fail))
    try (go_region)
    try go_wp2
  go_returns
  exact ⟨rfl, HB0.out, ⟨HK.out.os, HK.out.tape, HK.out.output, HK.out.size, HK.out.block⟩⟩

set_option maxHeartbeats 4000000 in
set_option maxRecDepth 100000 in
theorem tick_d4 (b : Nat) (c : Cn) (p : Option Addr) (cap : Nat) (vw : Value) (w : World) (h : CnB w b c vw (.slice p c.flies.length cap)) (hg : GoodN c) (hd : c.dead = false) (hf : ¬ (c.flies.length : Int) = 0) (hs4 : 3 < c.tries) (h9 : ¬ c.ticks + 1 < c.wait * 8) (h8 : c.tries = c.retry) :
    TickN b ({ c with ticks := c.ticks + 1, dead := true }) vw (.slice p c.flies.length cap) w := by
  obtain ⟨c0, c1, c2, c3, c4, c5, c6, c7, c8, c9, c10, c11, c12, c13, c14, c15⟩ := h.cells
  have f12 := h.soft 12
  have f13 := h.soft 13
  have f14 := h.soft 14
  have f15 := h.soft 15
  have gt := hg.ticks
  have gw := hg.wait
  have gs := hg.tries
  have gr := hg.retry
  have H1 := hid (dead_any b c vw _ w h hg.wait.1)
  have HB := hid h
  have hf2 : ((c.flies.length : Int) == 0) = false := by rw [beq_eq_false_iff_ne]; exact hf
  have w1 : IntKind.i64.wrap (c.ticks + 1) = c.ticks + 1 := by rw [IntKind.wrap_i64]; omega
  have w2 : IntKind.i64.wrap (c.wait * 8) = c.wait * 8 := by rw [IntKind.wrap_i64]; omega
  have h3 : ¬ c.tries < 3 := by omega
  have h3b : ¬ c.tries ≤ 3 := by omega
  have HB0 := hid (show CnB (w.setCell ⟨b, 13, none⟩ (.int .i64 (c.ticks + 1))) b { c with ticks := c.ticks + 1 } vw (.slice p c.flies.length cap) from CnB.set HB.out 13 (.int .i64 (c.ticks + 1)) rfl)
  have HB1 := hid (show CnB ((w.setCell ⟨b, 13, none⟩ (.int .i64 (c.ticks + 1))).setCell ⟨b, 15, none⟩ (.bool true)) b { c with ticks := c.ticks + 1, dead := true } vw (.slice p c.flies.length cap) from CnB.set HB0.out 15 (.bool true) rfl)
  have HK := hid (kept_cn (kept_cn (Kept.refl (fun i => i = b) w) rfl 13 (.int .i64 (c.ticks + 1))) rfl 15 (.bool true))
  clear hg h gt gw gs gr
  obtain ⟨queue, retry, wait, win, room, mark, count, next, come, waits, flies, owed, again, ticks, tries, dead⟩ := c
  dsimp only at *
  subst hd
  subst h8
  go_enter Try.func11, Try.ntmps11
  go_wp2_with fail
  refine (H1.out).mono ?_
  rintro e w1 ⟨rfl, hq⟩
  rw [hq]
  clear hq w1 H1
  go_wp2
  iterate 8
    try (go_quiet (fail))
    try (go_region)
    try go_wp2
  go_returns
  exact ⟨rfl, HB1.out, ⟨HK.out.os, HK.out.tape, HK.out.output, HK.out.size, HK.out.block⟩⟩

set_option maxHeartbeats 4000000 in
set_option maxRecDepth 100000 in
theorem tick_e4 (b : Nat) (c : Cn) (p : Option Addr) (cap : Nat) (vw : Value) (w : World) (h : CnB w b c vw (.slice p c.flies.length cap)) (hg : GoodN c) (hd : c.dead = false) (hf0 : ¬ (c.flies.length : Int) = 0) (hf : c.flies ≠ []) (hs4 : 3 < c.tries) (h9 : ¬ c.ticks + 1 < c.wait * 8) (h8 : ¬ c.tries = c.retry) :
    TickN b (fallN { c with ticks := 0, tries := c.tries + 1, again := true }) vw (.slice p c.flies.length cap) w := by
  obtain ⟨c0, c1, c2, c3, c4, c5, c6, c7, c8, c9, c10, c11, c12, c13, c14, c15⟩ := h.cells
  have f12 := h.soft 12
  have f13 := h.soft 13
  have f14 := h.soft 14
  have f15 := h.soft 15
  have gt := hg.ticks
  have gw := hg.wait
  have gs := hg.tries
  have gr := hg.retry
  have H1 := hid (dead_any b c vw _ w h hg.wait.1)
  have HB := hid h
  have hf2 : ((c.flies.length : Int) == 0) = false := by rw [beq_eq_false_iff_ne]; exact hf0
  have w1 : IntKind.i64.wrap (c.ticks + 1) = c.ticks + 1 := by rw [IntKind.wrap_i64]; omega
  have w2 : IntKind.i64.wrap (c.wait * 8) = c.wait * 8 := by rw [IntKind.wrap_i64]; omega
  have h3 : ¬ c.tries < 3 := by omega
  have h3b : ¬ c.tries ≤ 3 := by omega
  have w3 : IntKind.i64.wrap (c.tries + 1) = c.tries + 1 := by rw [IntKind.wrap_i64]; omega
  have h7 : (c.tries == c.retry) = false := by rw [beq_eq_false_iff_ne]; exact h8
  have h7b : (c.retry == c.tries) = false := by rw [beq_eq_false_iff_ne]; exact fun e => h8 e.symm
  have ht : c.tries + 1 ≤ c.retry := by omega
  have HB0 := hid (show CnB (w.setCell ⟨b, 13, none⟩ (.int .i64 (c.ticks + 1))) b { c with ticks := c.ticks + 1 } vw (.slice p c.flies.length cap) from CnB.set HB.out 13 (.int .i64 (c.ticks + 1)) rfl)
  have HB1 := hid (show CnB ((w.setCell ⟨b, 13, none⟩ (.int .i64 (c.ticks + 1))).setCell ⟨b, 14, none⟩ (.int .i64 (c.tries + 1))) b { c with ticks := c.ticks + 1, tries := c.tries + 1 } vw (.slice p c.flies.length cap) from CnB.set HB0.out 14 (.int .i64 (c.tries + 1)) rfl)
  have HB2 := hid (show CnB (((w.setCell ⟨b, 13, none⟩ (.int .i64 (c.ticks + 1))).setCell ⟨b, 14, none⟩ (.int .i64 (c.tries + 1))).setCell ⟨b, 13, none⟩ (.int .i64 (0))) b { c with ticks := 0, tries := c.tries + 1 } vw (.slice p c.flies.length cap) from CnB.set HB1.out 13 (.int .i64 (0)) rfl)
  have HB3 := hid (show CnB ((((w.setCell ⟨b, 13, none⟩ (.int .i64 (c.ticks + 1))).setCell ⟨b, 14, none⟩ (.int .i64 (c.tries + 1))).setCell ⟨b, 13, none⟩ (.int .i64 (0))).setCell ⟨b, 12, none⟩ (.bool true)) b { c with ticks := 0, tries := c.tries + 1, again := true } vw (.slice p c.flies.length cap) from CnB.set HB2.out 12 (.bool true) rfl)
  have HK := hid (kept_cn (kept_cn (kept_cn (kept_cn (Kept.refl (fun i => i = b) w) rfl 13 (.int .i64 (c.ticks + 1))) rfl 14 (.int .i64 (c.tries + 1))) rfl 13 (.int .i64 (0))) rfl 12 (.bool true))
  have HF := hid (fun W hb => fall_any b { c with ticks := 0, tries := c.tries + 1, again := true } vw (.slice p c.flies.length cap) W hb (good_retry hg hf ht))
  clear hg h gt gw gs gr
  clear hf ht HB HB0 HB1 HB2
  obtain ⟨queue, retry, wait, win, room, mark, count, next, come, waits, flies, owed, again, ticks, tries, dead⟩ := c
  dsimp only at *
  subst hd
  go_enter Try.func11, Try.ntmps11
  go_wp2_with fail
  refine (H1.out).mono ?_
  rintro e w1 ⟨rfl, hq⟩
  rw [hq]
  clear hq w1 H1
  go_wp2_with fail
  iterate 6
    try (go_quiet (fail))
    try (go_region)
    try (go_wp2_with fail)
  refine Calls.mono (HF.out _ ?_) ?_
  · exact HB3.out
  rintro e w1 ⟨rfl, hb, hk⟩
  go_wp2
  go_returns
  exact ⟨rfl, hb, by refine Kept.trans ?_ hk; exact ⟨HK.out.os, HK.out.tape, HK.out.output, HK.out.size, HK.out.block⟩⟩

theorem own_slice {α : Type} {enc : α → List Value} {k : Nat} {e : TypeId} {w : World} {base : Nat} {v : Value} {l : List α} (h : OwnG enc k e w base v l) : ∃ p cap, v = .slice p l.length cap := by
  rcases h.2 with ⟨rfl, h0⟩ | ⟨g, cap, cur, rfl, _⟩
  · exact ⟨none, 0, by rw [h0]⟩
  · exact ⟨_, cap, rfl⟩
theorem tickB_any (b : Nat) (c : Cn) (p : Option Addr) (cap : Nat) (vw : Value) (w : World) (h : CnB w b c vw (.slice p c.flies.length cap)) (hg : GoodN c) : TickN b (tickN c) vw (.slice p c.flies.length cap) w := by
  have gs := hg.tries
  unfold tickN
  by_cases hd : c.dead = true
  · rw [if_pos (Or.inl hd)]
    exact tick_dead b c p cap vw w h hg hd
  · have hd' : c.dead = false := by simpa using hd
    by_cases hf : c.flies = []
    · rw [if_pos (Or.inr hf)]
      exact tick_none b c p cap vw w h hg hd' (by rw [hf]; rfl)
    · rw [if_neg (fun g => g.elim hd hf)]
      have hf0 : ¬ (c.flies.length : Int) = 0 := fun e => hf (List.length_eq_zero_iff.1 (by omega))
      rcases (by omega : c.tries = 0 ∨ c.tries = 1 ∨ c.tries = 2 ∨ c.tries = 3 ∨ 3 < c.tries) with h0 | h1 | h2 | h3 | h4
      · have hw : waitN c = c.wait := by unfold waitN; rw [if_pos (by omega)]
        rw [hw]
        by_cases h9 : c.ticks + 1 < c.wait
        · rw [if_pos h9]
          exact tick_c0 b c p cap vw w h hg hd' hf0 h0 h9
        · rw [if_neg h9]
          by_cases h8 : c.tries = c.retry
          · rw [if_pos h8]
            exact tick_d0 b c p cap vw w h hg hd' hf0 h0 h9 h8
          · rw [if_neg h8]
            exact tick_e0 b c p cap vw w h hg hd' hf0 hf h0 h9 h8
      · have hw : waitN c = c.wait * 2 := by unfold waitN; rw [if_neg (by omega), if_pos h1]
        rw [hw]
        by_cases h9 : c.ticks + 1 < c.wait * 2
        · rw [if_pos h9]
          exact tick_c1 b c p cap vw w h hg hd' hf0 h1 h9
        · rw [if_neg h9]
          by_cases h8 : c.tries = c.retry
          · rw [if_pos h8]
            exact tick_d1 b c p cap vw w h hg hd' hf0 h1 h9 h8
          · rw [if_neg h8]
            exact tick_e1 b c p cap vw w h hg hd' hf0 hf h1 h9 h8
      · have hw : waitN c = c.wait * 4 := by unfold waitN; rw [if_neg (by omega), if_neg (by omega), if_pos h2]
        rw [hw]
        by_cases h9 : c.ticks + 1 < c.wait * 4
        · rw [if_pos h9]
          exact tick_c2 b c p cap vw w h hg hd' hf0 h2 h9
        · rw [if_neg h9]
          by_cases h8 : c.tries = c.retry
          · rw [if_pos h8]
            exact tick_d2 b c p cap vw w h hg hd' hf0 h2 h9 h8
          · rw [if_neg h8]
            exact tick_e2 b c p cap vw w h hg hd' hf0 hf h2 h9 h8
      · have hw : waitN c = c.wait * 8 := by unfold waitN; rw [if_neg (by omega), if_neg (by omega), if_neg (by omega)]
        rw [hw]
        by_cases h9 : c.ticks + 1 < c.wait * 8
        · rw [if_pos h9]
          exact tick_c3 b c p cap vw w h hg hd' hf0 h3 h9
        · rw [if_neg h9]
          by_cases h8 : c.tries = c.retry
          · rw [if_pos h8]
            exact tick_d3 b c p cap vw w h hg hd' hf0 h3 h9 h8
          · rw [if_neg h8]
            exact tick_e3 b c p cap vw w h hg hd' hf0 hf h3 h9 h8
      · have hw : waitN c = c.wait * 8 := by unfold waitN; rw [if_neg (by omega), if_neg (by omega), if_neg (by omega)]
        rw [hw]
        by_cases h9 : c.ticks + 1 < c.wait * 8
        · rw [if_pos h9]
          exact tick_c4 b c p cap vw w h hg hd' hf0 h4 h9
        · rw [if_neg h9]
          by_cases h8 : c.tries = c.retry
          · rw [if_pos h8]
            exact tick_d4 b c p cap vw w h hg hd' hf0 h4 h9 h8
          · rw [if_neg h8]
            exact tick_e4 b c p cap vw w h hg hd' hf0 hf h4 h9 h8
theorem tickN_rows (c : Cn) : (tickN c).waits = c.waits ∧ (tickN c).flies = c.flies := by
  unfold tickN
  split
  · exact ⟨rfl, rfl⟩
  · split
    · exact ⟨rfl, rfl⟩
    · split <;> exact ⟨rfl, rfl⟩
theorem tick_any {w : World} {b : Nat} {c : Cn} {vw vf : Value} (h : CnIn w b c vw vf) (hg : GoodN c) :
    Calls Try.prog 11 #[.pointer (some ⟨b, 0, none⟩)] w fun e w' => e = .returned (.tuple #[]) ∧ NextN w w' b vw vf (tickN c) vw vf := by
  obtain ⟨p, cap, rfl⟩ := own_slice h.rf
  refine (tickB_any b c p cap vw w h.blk hg).mono ?_
  rintro e w' ⟨rfl, hb, hk⟩
  exact ⟨rfl, NextN.cells h hk hb (tickN_rows c).1 (tickN_rows c).2⟩
end Go.Proofs.Ytoflohomnoppnaa
