/- The contract of Clock.Set, for every clock, a nil one too. -/
import Derived.Test.YtmclldidmpeahaaWhen
import Derived.Lib.Hide
namespace Go.Proofs.Ytmclldidmpeahaa
open Go.RowKit

/-- What Set does to the timers. -/
def putT (ts : List Tm) (k i a t : Int) : List Tm := dropT ts k i ++ [⟨k, i, a, t⟩]

theorem set_nil (k i n : Int) (w : World) :
    Calls Try.prog 18 #[.pointer none, keyV k i, .int .i64 n] w fun e w' => e = .returned (.int .i64 1) ∧ Kept (fun _ => False) w w' := by
  unfold keyV
  go_enter Try.func18, Try.ntmps18
  go_wp2
  all_goals go_ret
  all_goals exact ⟨rfl, (Kept.refl _ w).alloc _⟩

theorem set_arg (b : Nat) (k i n : Int) (h : n < 1 ∨ 2147483647 < n) (w : World) :
    Calls Try.prog 18 #[.pointer (some ⟨b, 0, none⟩), keyV k i, .int .i64 n] w fun e w' => e = .returned (.int .i64 1) ∧ Kept (fun _ => False) w w' := by
  unfold keyV
  by_cases h1 : n < 1
  · go_enter Try.func18, Try.ntmps18
    go_wp2
    go_ret
    exact ⟨rfl, (Kept.refl _ w).alloc _⟩
  · have h2 : 2147483647 < n := by omega
    go_enter Try.func18, Try.ntmps18
    go_wp2
    go_ret
    exact ⟨rfl, (Kept.refl _ w).alloc _⟩

set_option maxHeartbeats 400000 in
set_option maxRecDepth 100000 in
theorem set_full (b : Nat) (m : Option Nat) (now turns : Int) (ts : List Tm) (k i n : Int) (hk : In64 k) (hi : In64 i) (h1 : 1 ≤ n) (h2 : n ≤ 2147483647) (hf : findT ts k i = none) (hl : 300 ≤ ts.length) (w : World) (hc : IsClock w b m now turns ts) :
    Calls Try.prog 18 #[.pointer (some ⟨b, 0, none⟩), keyV k i, .int .i64 n] w fun e w' => e = .returned (.int .i64 10) ∧ Kept (fun _ => False) w w' := by
  have hlt := hc.lt
  have hl1 : ∀ o, Sem.run Try.prog (Instr.lookup 60 (.map m) (.agg #[.int .i64 k, .int .i64 i]) true) (w.alloc o).drew = _ := fun o => (hc.kept (S := fun _ => False) ((Kept.refl _ w).alloc o).drew (fun _ _ => id)).ts.look true hk hi
  have hl2 : ∀ o o', Sem.run Try.prog (Instr.lookup 60 (.map m) (.agg #[.int .i64 k, .int .i64 i]) true) ((w.alloc o).alloc o').drew = _ := fun o o' => (hc.kept (S := fun _ => False) (((Kept.refl _ w).alloc o).alloc o').drew (fun _ _ => id)).ts.look true hk hi
  have hn : ∀ o o' ty, Sem.run Try.prog (Builtin.len_ #[60] ty #[.map m]) ((w.alloc o).alloc o').drew = _ := fun o o' ty => (hc.kept (S := fun _ => False) (((Kept.refl _ w).alloc o).alloc o').drew (fun _ _ => id)).ts.len ty
  have c2 : ∀ o, (w.alloc o).cell? ⟨b, 2, none⟩ = some (.map m) := fun o => (((Kept.refl (fun _ => False) w).alloc o).cell (p := ⟨b, 2, none⟩) hlt id).trans hc.c2
  have c2' : ∀ o o', ((w.alloc o).alloc o').cell? ⟨b, 2, none⟩ = some (.map m) := fun o o' => ((((Kept.refl (fun _ => False) w).alloc o).alloc o').cell (p := ⟨b, 2, none⟩) hlt id).trans hc.c2
  simp only [if_true, hf, timeOf, turnOf, Option.isSome_none] at hl1 hl2
  generalize ts.length = q at *
  clear hc hf
  unfold keyV
  go_enter Try.func18, Try.ntmps18
  go_wp2
  go_region
  all_goals go_wp2
  all_goals go_ret
  all_goals exact ⟨rfl, (((Kept.refl _ w).alloc _).alloc _).drew⟩

set_option maxHeartbeats 1000000 in
set_option maxRecDepth 100000 in
theorem set_in (b mb : Nat) (now turns : Int) (ts : List Tm) (k i n : Int) (hk : In64 k) (hi : In64 i) (h1 : 1 ≤ n) (h2 : n ≤ 2147483647) (hf : (findT ts k i).isSome = true ∨ ts.length < 300) (hl : ts.length < 1000)
    (hnow : 0 ≤ now) (hnow2 : now ≤ 1152921504606846976) (ht : 0 ≤ turns) (ht2 : turns ≤ 1152921504606846976) (w : World) (hc : IsClock w b (some mb) now turns ts) :
    Calls Try.prog 18 #[.pointer (some ⟨b, 0, none⟩), keyV k i, .int .i64 n] w fun e w' => e = .returned (.int .i64 0) ∧ IsClock w' b (some mb) now (turns + 1) (putT ts k i (now + n) (turns + 1)) ∧ Kept (ofClock b (some mb)) w w' := by
  have hlt := hc.lt
  have hl1 : ∀ o, Sem.run Try.prog (Instr.lookup 60 (.map (some mb)) (.agg #[.int .i64 k, .int .i64 i]) true) (w.alloc o).drew = _ := fun o => (hc.kept (S := fun _ => False) ((Kept.refl _ w).alloc o).drew (fun _ _ => id)).ts.look true hk hi
  have hl2 : ∀ o o', Sem.run Try.prog (Instr.lookup 60 (.map (some mb)) (.agg #[.int .i64 k, .int .i64 i]) true) ((w.alloc o).alloc o').drew = _ := fun o o' => (hc.kept (S := fun _ => False) (((Kept.refl _ w).alloc o).alloc o').drew (fun _ _ => id)).ts.look true hk hi
  have hn : ∀ o o' ty, Sem.run Try.prog (Builtin.len_ #[60] ty #[.map (some mb)]) ((w.alloc o).alloc o').drew = _ := fun o o' ty => (hc.kept (S := fun _ => False) (((Kept.refl _ w).alloc o).alloc o').drew (fun _ _ => id)).ts.len ty
  have c2 : ∀ o, (w.alloc o).cell? ⟨b, 2, none⟩ = some (.map (some mb)) := fun o => (((Kept.refl (fun _ => False) w).alloc o).cell (p := ⟨b, 2, none⟩) hlt id).trans hc.c2
  have k2 := fun o o' => ((Kept.refl (fun _ => False) w).alloc o).alloc o'
  have c0' : ∀ o o', ((w.alloc o).alloc o').cell? ⟨b, 0, none⟩ = some (.int .i64 now) := fun o o' => ((k2 o o').cell (p := ⟨b, 0, none⟩) hlt id).trans hc.c0
  have c1' : ∀ o o', ((w.alloc o).alloc o').cell? ⟨b, 1, none⟩ = some (.int .i64 turns) := fun o o' => ((k2 o o').cell (p := ⟨b, 1, none⟩) hlt id).trans hc.c1
  have c2' : ∀ o o', ((w.alloc o).alloc o').cell? ⟨b, 2, none⟩ = some (.map (some mb)) := fun o o' => ((k2 o o').cell (p := ⟨b, 2, none⟩) hlt id).trans hc.c2
  have f1' : ∀ o o', ((w.alloc o).alloc o').frozen? ⟨b, 1, none⟩ = false := fun o o' => ((k2 o o').frozen (p := ⟨b, 1, none⟩) hlt id).trans (hc.f 1)
  have hs := hc.set1 (turns + 1)
  have d0 : ∀ o o', (((w.setCell ⟨b, 1, none⟩ (.int .i64 (turns + 1))).alloc o).alloc o').cell? ⟨b, 0, none⟩ = some (.int .i64 now) := fun o o' => ((hs.grew o).grew o').c0
  have d1 : ∀ o o', (((w.setCell ⟨b, 1, none⟩ (.int .i64 (turns + 1))).alloc o).alloc o').cell? ⟨b, 1, none⟩ = some (.int .i64 (turns + 1)) := fun o o' => ((hs.grew o).grew o').c1
  have d2 : ∀ o o', (((w.setCell ⟨b, 1, none⟩ (.int .i64 (turns + 1))).alloc o).alloc o').cell? ⟨b, 2, none⟩ = some (.map (some mb)) := fun o o' => ((hs.grew o).grew o').c2
  have hst := fun o o' => ((hs.grew o).grew o').drawn.drawn.ts.store hl hk hi (now + n) (turns + 1)
  obtain ⟨F, hF⟩ := skolem2 hst
  have s1 := fun o o' => (hF o o').1
  have s2 := fun o o' => (hF o o').2.1
  have s3 := fun o o' => (hF o o').2.2.1
  have fin : ∀ o o', IsClock (F o o') b (some mb) now (turns + 1) (putT ts k i (now + n) (turns + 1)) ∧ Kept (ofClock b (some mb)) w (F o o') := fun o o' =>
    ⟨((hs.grew o).grew o').drawn.drawn.turned (s3 o o') (s2 o o'), (((((Kept.refl _ w).setCell (p := ⟨b, 1, none⟩) (Or.inr (Or.inl rfl)) _).alloc o).alloc o').drew.drew).grown (s3 o o') (fun j hj => Or.inr (Or.inr hj))⟩
  have Hfin : Hid (∀ o o', IsClock (F o o') b (some mb) now (turns + 1) (putT ts k i (now + n) (turns + 1)) ∧ Kept (ofClock b (some mb)) w (F o o')) := fin
  have hE := eqMapSome mb
  simp only [if_true] at hl1 hl2
  unfold keyV at s1
  generalize timeOf (findT ts k i) = a0 at *
  generalize turnOf (findT ts k i) = a1 at *
  generalize hq : (findT ts k i).isSome = q at *
  clear hq hc hs hst hF s2 s3 fin k2
  unfold keyV
  cases q with
  | false =>
    have hl3 : ts.length < 300 := by simpa using hf
    clear hf
    go_enter Try.func18, Try.ntmps18
    go_wp2
    go_region
    all_goals go_wp2
    all_goals go_region
    all_goals go_wp2
    all_goals go_ret
    all_goals exact ⟨rfl, Hfin _ _⟩
  | true =>
    clear hf
    go_enter Try.func18, Try.ntmps18
    go_wp2
    go_region
    all_goals go_wp2
    all_goals go_region
    all_goals go_wp2
    all_goals go_ret
    all_goals exact ⟨rfl, Hfin _ _⟩
set_option maxHeartbeats 1000000 in
set_option maxRecDepth 100000 in
theorem set_new (b : Nat) (now turns : Int) (k i n : Int) (hk : In64 k) (hi : In64 i) (h1 : 1 ≤ n) (h2 : n ≤ 2147483647)
    (hnow : 0 ≤ now) (hnow2 : now ≤ 1152921504606846976) (ht : 0 ≤ turns) (ht2 : turns ≤ 1152921504606846976) (w : World) (hc : IsClock w b none now turns []) :
    Calls Try.prog 18 #[.pointer (some ⟨b, 0, none⟩), keyV k i, .int .i64 n] w fun e w' => e = .returned (.int .i64 0) ∧ ∃ mb, w.heap.size ≤ mb ∧ IsClock w' b (some mb) now (turns + 1) (putT [] k i (now + n) (turns + 1)) ∧ Kept (ofClock b none) w w' := by
  have hlt := hc.lt
  have hl1 : ∀ o, Sem.run Try.prog (Instr.lookup 60 (.map none) (.agg #[.int .i64 k, .int .i64 i]) true) (w.alloc o).drew = .ok (.tuple #[.agg #[.int .i64 0, .int .i64 0], .bool false]) _ := fun o => ((hc.grew o).drawn.ts.look true hk hi)
  have hl2 : ∀ o o', Sem.run Try.prog (Instr.lookup 60 (.map none) (.agg #[.int .i64 k, .int .i64 i]) true) ((w.alloc o).alloc o').drew = .ok (.tuple #[.agg #[.int .i64 0, .int .i64 0], .bool false]) _ := fun o o' => (((hc.grew o).grew o').drawn.ts.look true hk hi)
  have hn : ∀ o o' ty, Sem.run Try.prog (Builtin.len_ #[60] ty #[.map none]) ((w.alloc o).alloc o').drew = .ok (.int .i64 0) _ := fun o o' ty => ((hc.grew o).grew o').drawn.ts.len ty
  have c2 : ∀ o, (w.alloc o).cell? ⟨b, 2, none⟩ = some (.map none) := fun o => (hc.grew o).c2
  have c2' : ∀ o o', ((w.alloc o).alloc o').cell? ⟨b, 2, none⟩ = some (.map none) := fun o o' => ((hc.grew o).grew o').c2
  have c2'' : ∀ o o' o'', (((w.alloc o).alloc o').alloc o'').cell? ⟨b, 2, none⟩ = some (.map none) := fun o o' o'' => (((hc.grew o).grew o').grew o'').c2
  have f2'' : ∀ o o' o'', (((w.alloc o).alloc o').alloc o'').frozen? ⟨b, 2, none⟩ = false := fun o o' o'' => (((hc.grew o).grew o').grew o'').f 2
  have hne : (some (w.heap.size + 1 + 1) : Option Nat) ≠ some b := by simp; omega
  have hB : ∀ o o', TsIn ((((w.alloc o).alloc o').alloc (.map #[] 0)).setCell ⟨b, 2, none⟩ (.map (some (w.heap.size + 1 + 1)))) (some (w.heap.size + 1 + 1)) [] := fun o o' => by
    have hz : ((w.alloc o).alloc o').heap.size = w.heap.size + 1 + 1 := by simp
    have h0 := (MapKept.heap_alloc ((w.alloc o).alloc o') (.map #[] 0)).1
    rw [hz] at h0
    refine TsIn.setCell (m := some (w.heap.size + 1 + 1)) (ts := []) ⟨#[], 0, h0, MapKept.stamped_empty 0, by simp, by simp, by simp⟩ (by simpa using hne) _
  have hs2 := fun o o' => (((hc.grew o).grew o').grew (.map #[] 0)).set2 hne (hB o o')
  have hs3 := fun o o' => (hs2 o o').set1 (turns + 1)
  have e1 := fun o o' => (hs2 o o').c1
  have g1 := fun o o' => (hs2 o o').f 1
  have d0 := fun o o' => (hs3 o o').c0
  have d1 := fun o o' => (hs3 o o').c1
  have d2 := fun o o' => (hs3 o o').c2
  have hst := fun o o' => (hs3 o o').drawn.drawn.ts.store (by simp) hk hi (now + n) (turns + 1)
  obtain ⟨F, hF⟩ := skolem2 hst
  have s1 := fun o o' => (hF o o').1
  have Hfin : Hid (∀ o o', w.heap.size ≤ w.heap.size + 1 + 1 ∧ IsClock (F o o') b (some (w.heap.size + 1 + 1)) now (turns + 1) (putT [] k i (now + n) (turns + 1)) ∧ Kept (ofClock b none) w (F o o')) := fun o o' =>
    ⟨by omega, (hs3 o o').drawn.drawn.turned (hF o o').2.2.1 (hF o o').2.1, (((((((Kept.refl _ w).alloc o).alloc o').alloc _).setCell (p := ⟨b, 2, none⟩) (Or.inr (Or.inl rfl)) _).setCell (p := ⟨b, 1, none⟩) (Or.inr (Or.inl rfl)) _).drew.drew).grown (hF o o').2.2.1 (fun j hj => Or.inl (by cases hj; omega))⟩
  have hE := eqMapNil
  have hmm := @run_makeMap Try.prog
  unfold keyV at s1
  clear hc hs2 hs3 hst hF hB hne
  unfold keyV
  go_enter Try.func18, Try.ntmps18
  go_wp2
  go_region
  all_goals go_wp2
  all_goals go_region
  all_goals go_wp2
  all_goals go_ret
  all_goals exact ⟨rfl, _, Hfin _ _⟩

end Go.Proofs.Ytmclldidmpeahaa
