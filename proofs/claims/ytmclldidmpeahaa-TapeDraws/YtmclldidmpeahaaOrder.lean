/- The contract of Clock.order: how two keys' timers stand to each other. -/
import Derived.Test.YtmclldidmpeahaaClockSmall
import Derived.Deep.RegionWith
import Derived.Deep.RegionHeld3
import Derived.Deep.DeepCutAuto
namespace Go.Proofs.Ytmclldidmpeahaa
open Go.RowKit

def cmpI (x y : Int) : Int := if x < y then -1 else if y < x then 1 else 0

theorem isNaN_any (x : Int) (w : World) : Calls Try.prog 49 #[.int .i64 x] w fun e w' => e = .returned (.bool false) ∧ w' = w := by
  go_enter Try.func49, Try.ntmps49
  go_wp2
  go_ret
  exact ⟨by simp, rfl⟩

theorem compare_any (x y : Int) (w : World) : Calls Try.prog 37 #[.int .i64 x, .int .i64 y] w fun e w' => e = .returned (.int .i64 (cmpI x y)) ∧ w' = w := by
  by_cases h1 : x < y
  · have e1 : cmpI x y = -1 := if_pos h1
    rw [e1]
    clear e1
    go_enter Try.func37, Try.ntmps37
    go_wp2_with (go_at_call 49; refine (isNaN_any _ _).mono ?_; rintro e w' ⟨rfl, rfl⟩)
    go_ret
    exact ⟨rfl, rfl⟩
  · by_cases h2 : y < x
    · have e1 : cmpI x y = 1 := by unfold cmpI; rw [if_neg h1, if_pos h2]
      rw [e1]
      clear e1
      go_enter Try.func37, Try.ntmps37
      go_wp2_with (go_at_call 49; refine (isNaN_any _ _).mono ?_; rintro e w' ⟨rfl, rfl⟩)
      go_ret
      exact ⟨rfl, rfl⟩
    · have e1 : cmpI x y = 0 := by unfold cmpI; rw [if_neg h1, if_neg h2]
      rw [e1]
      clear e1
      go_enter Try.func37, Try.ntmps37
      go_wp2_with (go_at_call 49; refine (isNaN_any _ _).mono ?_; rintro e w' ⟨rfl, rfl⟩)
      go_ret
      exact ⟨rfl, rfl⟩

/-- The first of two that is not 0. -/
def orI (a c : Int) : Int := if a = 0 then c else a

theorem or2_any (g : Nat) (a c : Int) (w : World) (c0 : w.cell? ⟨g, 0, none⟩ = some (.int .i64 a)) (c1 : w.cell? ⟨g, 1, none⟩ = some (.int .i64 c)) :
    Calls Try.prog 36 #[.slice (some ⟨g, 0, none⟩) 2 2] w fun e w' => e = .returned (.int .i64 (orI a c)) ∧ w' = w := by
  unfold orI
  by_cases h : a = 0
  · rw [if_pos h]
    subst h
    by_cases h' : c = 0
    · subst h'
      go_enter Try.func36, Try.ntmps36
      go_wp2
      refine wp_loop_rounds 3 ?_
      rw [rounds_succ]
      go_wp2
      rw [rounds_succ]
      go_wp2
      rw [rounds_succ]
      go_wp2
      go_ret
      exact ⟨rfl, rfl⟩
    · have h2 : (c == 0) = false := by simp [h']
      go_enter Try.func36, Try.ntmps36
      go_wp2
      refine wp_loop_rounds 3 ?_
      rw [rounds_succ]
      go_wp2
      rw [rounds_succ]
      go_wp2
      go_ret
      exact ⟨rfl, rfl⟩
  · rw [if_neg h]
    have h2 : (a == 0) = false := by simp [h]
    go_enter Try.func36, Try.ntmps36
    go_wp2
    refine wp_loop_rounds 3 ?_
    rw [rounds_succ]
    go_wp2
    go_ret
    exact ⟨rfl, rfl⟩
theorem new0 (W : World) (t : TypeId) (x y : Value) (n : Nat) (h : n = W.heap.size) : (W.alloc (.cells #[x, y] t)).drew.cell? ⟨n, 0, none⟩ = some x := by subst h; simp
theorem new1 (W : World) (t : TypeId) (x y : Value) (n : Nat) (h : n = W.heap.size) : (W.alloc (.cells #[x, y] t)).drew.cell? ⟨n, 1, none⟩ = some y := by subst h; simp

/-- How the timers of two keys stand to each other: by their times, then by their turns. -/
def ordT (x y : Option Tm) : Int := orI (cmpI (timeOf x) (timeOf y)) (cmpI (turnOf x) (turnOf y))

set_option maxHeartbeats 2000000 in
set_option maxRecDepth 100000 in
theorem order_any (b : Nat) (m : Option Nat) (now turns : Int) (ts : List Tm) (k i k' i' : Int) (hk : In64 k) (hi : In64 i) (hk' : In64 k') (hi' : In64 i') (w : World) (hc : IsClock w b m now turns ts) :
    Calls Try.prog 32 #[.pointer (some ⟨b, 0, none⟩), keyV k i, keyV k' i'] w fun e w' => e = .returned (.int .i64 (ordT (findT ts k i) (findT ts k' i'))) ∧ Kept (fun _ => False) w w' := by
  have hlt := hc.lt
  have g2 := fun o1 o2 => ((hc.grew o1).grew o2).drawn
  have g3 := fun o1 o2 o3 => (((hc.grew o1).grew o2).grew o3).drawn
  have g4 := fun o1 o2 o3 o4 => ((((hc.grew o1).grew o2).grew o3).grew o4).drawn
  have a2 : ∀ o1 o2, Sem.run Try.prog (Instr.lookup 60 (.map m) (.agg #[.int .i64 k, .int .i64 i]) false) ((w.alloc o1).alloc o2).drew = _ := fun o1 o2 => (g2 o1 o2).ts.look false hk hi
  have a3 : ∀ o1 o2 o3, Sem.run Try.prog (Instr.lookup 60 (.map m) (.agg #[.int .i64 k, .int .i64 i]) false) (((w.alloc o1).alloc o2).alloc o3).drew = _ := fun o1 o2 o3 => (g3 o1 o2 o3).ts.look false hk hi
  have a4 : ∀ o1 o2 o3 o4, Sem.run Try.prog (Instr.lookup 60 (.map m) (.agg #[.int .i64 k, .int .i64 i]) false) ((((w.alloc o1).alloc o2).alloc o3).alloc o4).drew = _ := fun o1 o2 o3 o4 => (g4 o1 o2 o3 o4).ts.look false hk hi
  have b2 : ∀ o1 o2, Sem.run Try.prog (Instr.lookup 60 (.map m) (.agg #[.int .i64 k', .int .i64 i']) false) ((w.alloc o1).alloc o2).drew = _ := fun o1 o2 => (g2 o1 o2).ts.look false hk' hi'
  have b3 : ∀ o1 o2 o3, Sem.run Try.prog (Instr.lookup 60 (.map m) (.agg #[.int .i64 k', .int .i64 i']) false) (((w.alloc o1).alloc o2).alloc o3).drew = _ := fun o1 o2 o3 => (g3 o1 o2 o3).ts.look false hk' hi'
  have b4 : ∀ o1 o2 o3 o4, Sem.run Try.prog (Instr.lookup 60 (.map m) (.agg #[.int .i64 k', .int .i64 i']) false) ((((w.alloc o1).alloc o2).alloc o3).alloc o4).drew = _ := fun o1 o2 o3 o4 => (g4 o1 o2 o3 o4).ts.look false hk' hi'
  have c2 := fun o1 o2 => (g2 o1 o2).c2
  have c3 := fun o1 o2 o3 => (g3 o1 o2 o3).c2
  have c4 := fun o1 o2 o3 o4 => (g4 o1 o2 o3 o4).c2
  simp only [World.cell?_drew] at c2 c3 c4
  simp only [Bool.false_eq_true, if_false] at a2 a3 a4 b2 b3 b4
  unfold ordT
  generalize timeOf (findT ts k i) = x0 at *
  generalize turnOf (findT ts k i) = x1 at *
  generalize timeOf (findT ts k' i') = y0 at *
  generalize turnOf (findT ts k' i') = y1 at *
  clear hc g2 g3 g4
  unfold keyV
  go_enter Try.func32, Try.ntmps32
  go_upto_region 1 with fail
  go_cut [7, 8] (fun v7 v8 wx => ∃ g h, v7 = .pointer (some ⟨g, 0, none⟩) ∧ v8 = .pointer (some ⟨h, 0, none⟩) ∧ wx.cell? ⟨g, 0, none⟩ = some (.int .i64 x0) ∧ wx.cell? ⟨g, 1, none⟩ = some (.int .i64 x1) ∧ wx.cell? ⟨h, 0, none⟩ = some (.int .i64 y0) ∧ wx.cell? ⟨h, 1, none⟩ = some (.int .i64 y1) ∧ Kept (fun _ => False) w wx)
  case first =>
    go_region
    all_goals (go_wp2; go_meet)
    all_goals refine ⟨_, _, rfl, rfl, ?_, ?_, ?_, ?_, (((((Kept.refl _ w).alloc _).alloc _).alloc _).alloc _).drew⟩
    all_goals go_simp
  case rest =>
    obtain ⟨g, h, rfl, rfl, q0, q1, r0, r1, hk⟩ := hcut
    clear a2 a3 a4 b2 b3 b4 c2 c3 c4
    go_wp2
    go_region_held3 (fun W => W.cell? ⟨g, 0, none⟩ = some (.int .i64 x0) ∧ W.cell? ⟨g, 1, none⟩ = some (.int .i64 x1) ∧ W.cell? ⟨h, 0, none⟩ = some (.int .i64 y0) ∧ W.cell? ⟨h, 1, none⟩ = some (.int .i64 y1)) (go_keep) (first
      | (go_at_call 37; refine (compare_any _ _ _).mono ?_; rintro e w' ⟨rfl, rfl⟩)
      | (go_at_call 36; refine (or2_any _ _ _ _ (new0 _ _ _ _ _ (by simp)) (new1 _ _ _ _ _ (by simp))).mono ?_; rintro e w' ⟨rfl, rfl⟩))
    all_goals go_wp2
    all_goals go_ret
    all_goals exact ⟨rfl, (hk.alloc _).drew⟩
end Go.Proofs.Ytmclldidmpeahaa
