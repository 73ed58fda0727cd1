/- slices.SortFunc over a clock's keys, at none, one or two of them, by Clock.order. -/
import Derived.Test.YtmclldidmpeahaaOrder
import Derived.Deep.QuietTactic
import Derived.BigQuiet
namespace Go.Proofs.Ytmclldidmpeahaa
open Go.RowKit

set_option maxRecDepth 100000 in
theorem len64_0 (w : World) : Calls Try.prog 48 #[.int .u64 0] w fun e w' => (∃ l : Int, e = .returned (.int .i64 l)) ∧ w' = w := by
  go_enter Try.func48, Try.ntmps48
  go_wp2
  go_ret
  exact ⟨⟨_, rfl⟩, rfl⟩
set_option maxRecDepth 100000 in
theorem len64_1 (w : World) : Calls Try.prog 48 #[.int .u64 1] w fun e w' => (∃ l : Int, e = .returned (.int .i64 l)) ∧ w' = w := by
  go_enter Try.func48, Try.ntmps48
  go_wp2
  go_ret
  exact ⟨⟨_, rfl⟩, rfl⟩
set_option maxRecDepth 100000 in
theorem len64_2 (w : World) : Calls Try.prog 48 #[.int .u64 2] w fun e w' => (∃ l : Int, e = .returned (.int .i64 l)) ∧ w' = w := by
  go_enter Try.func48, Try.ntmps48
  go_wp2
  go_ret
  exact ⟨⟨_, rfl⟩, rfl⟩
theorem len_0 (w : World) : Calls Try.prog 35 #[.int .u64 0] w fun e w' => (∃ l : Int, e = .returned (.int .i64 l)) ∧ w' = w := by
  go_enter Try.func35, Try.ntmps35
  go_wp2_with (go_at_call 48; refine (len64_0 _).mono ?_; rintro e w' ⟨⟨l, rfl⟩, rfl⟩)
  go_ret
  exact ⟨⟨_, rfl⟩, rfl⟩
theorem len_1 (w : World) : Calls Try.prog 35 #[.int .u64 1] w fun e w' => (∃ l : Int, e = .returned (.int .i64 l)) ∧ w' = w := by
  go_enter Try.func35, Try.ntmps35
  go_wp2_with (go_at_call 48; refine (len64_1 _).mono ?_; rintro e w' ⟨⟨l, rfl⟩, rfl⟩)
  go_ret
  exact ⟨⟨_, rfl⟩, rfl⟩
theorem len_2 (w : World) : Calls Try.prog 35 #[.int .u64 2] w fun e w' => (∃ l : Int, e = .returned (.int .i64 l)) ∧ w' = w := by
  go_enter Try.func35, Try.ntmps35
  go_wp2_with (go_at_call 48; refine (len64_2 _).mono ?_; rintro e w' ⟨⟨l, rfl⟩, rfl⟩)
  go_ret
  exact ⟨⟨_, rfl⟩, rfl⟩

theorem ins_0 (p : Option Addr) (cap : Nat) (fv : Value) (w : World) : Calls Try.prog 39 #[.slice p 0 cap, .int .i64 0, .int .i64 0, fv] w fun e w' => e = .returned (.tuple #[]) ∧ w' = w := by
  go_enter Try.func39, Try.ntmps39
  go_wp2
  refine wp_loop_rounds 1 ?_
  rw [rounds_succ]
  go_wp2
  go_end0
  exact ⟨rfl, rfl⟩
theorem ins_1 (p : Option Addr) (cap : Nat) (fv : Value) (w : World) : Calls Try.prog 39 #[.slice p 1 cap, .int .i64 0, .int .i64 1, fv] w fun e w' => e = .returned (.tuple #[]) ∧ w' = w := by
  go_enter Try.func39, Try.ntmps39
  go_wp2
  refine wp_loop_rounds 1 ?_
  rw [rounds_succ]
  go_wp2
  go_end0
  exact ⟨rfl, rfl⟩

set_option maxHeartbeats 1000000 in
set_option maxRecDepth 100000 in
theorem pdq_0 (p : Option Addr) (cap : Nat) (fv : Value) (l : Int) (w : World) : Calls Try.prog 34 #[.slice p 0 cap, .int .i64 0, .int .i64 0, .int .i64 l, fv] w fun e w' => e = .returned (.tuple #[]) ∧ w' = w := by
  go_enter Try.func34, Try.ntmps34
  go_wp2
  refine wp_loop_rounds 1 ?_
  rw [rounds_succ]
  go_wp2_with (go_at_call 39; refine (ins_0 _ _ _ _).mono ?_; rintro e w' ⟨rfl, rfl⟩)
  (try simp only [Exit.inBlock, Exit.then]); refine bodyPost_ret (results_none rfl _ _ _) rfl ?_
  exact ⟨rfl, rfl⟩
set_option maxHeartbeats 1000000 in
set_option maxRecDepth 100000 in
theorem pdq_1 (p : Option Addr) (cap : Nat) (fv : Value) (l : Int) (w : World) : Calls Try.prog 34 #[.slice p 1 cap, .int .i64 0, .int .i64 1, .int .i64 l, fv] w fun e w' => e = .returned (.tuple #[]) ∧ w' = w := by
  go_enter Try.func34, Try.ntmps34
  go_wp2
  refine wp_loop_rounds 1 ?_
  rw [rounds_succ]
  go_wp2_with (go_at_call 39; refine (ins_1 _ _ _ _).mono ?_; rintro e w' ⟨rfl, rfl⟩)
  (try simp only [Exit.inBlock, Exit.then]); refine bodyPost_ret (results_none rfl _ _ _) rfl ?_
  exact ⟨rfl, rfl⟩

theorem sort_0 (p : Option Addr) (cap : Nat) (fv : Value) (w : World) : Calls Try.prog 31 #[.slice p 0 cap, fv] w fun e w' => e = .returned (.tuple #[]) ∧ w' = w := by
  go_enter Try.func31, Try.ntmps31
  go_wp2_with (first
    | (go_at_call 35; refine (len_0 _).mono ?_; rintro e w' ⟨⟨l, rfl⟩, rfl⟩)
    | (go_at_call 34; refine (pdq_0 _ _ _ _ _).mono ?_; rintro e w' ⟨rfl, rfl⟩))
  go_end0
  exact ⟨rfl, rfl⟩
theorem sort_1 (p : Option Addr) (cap : Nat) (fv : Value) (w : World) : Calls Try.prog 31 #[.slice p 1 cap, fv] w fun e w' => e = .returned (.tuple #[]) ∧ w' = w := by
  go_enter Try.func31, Try.ntmps31
  go_wp2_with (first
    | (go_at_call 35; refine (len_1 _).mono ?_; rintro e w' ⟨⟨l, rfl⟩, rfl⟩)
    | (go_at_call 34; refine (pdq_1 _ _ _ _ _).mono ?_; rintro e w' ⟨rfl, rfl⟩))
  go_end0
  exact ⟨rfl, rfl⟩
/-- Two keys in the block g. -/
def Row2 (W : World) (g : Nat) (k0 i0 k1 i1 : Int) : Prop :=
  W.cell? ⟨g, 0, none⟩ = some (.int .i64 k0) ∧ W.cell? ⟨g, 1, none⟩ = some (.int .i64 i0) ∧ W.cell? ⟨g, 2, none⟩ = some (.int .i64 k1) ∧ W.cell? ⟨g, 3, none⟩ = some (.int .i64 i1)

theorem Row2.kept {W W' : World} {g : Nat} {k0 i0 k1 i1 : Int} {S : Nat → Prop} (h : Row2 W g k0 i0 k1 i1) (hk : Kept S W W') (hS : ¬ S g) : Row2 W' g k0 i0 k1 i1 :=
  have hl : g < W.heap.size := lt_of_cell h.1
  ⟨(hk.cell (p := ⟨g, 0, none⟩) hl hS).trans h.1, (hk.cell (p := ⟨g, 1, none⟩) hl hS).trans h.2.1, (hk.cell (p := ⟨g, 2, none⟩) hl hS).trans h.2.2.1, (hk.cell (p := ⟨g, 3, none⟩) hl hS).trans h.2.2.2⟩

set_option maxHeartbeats 2000000 in
set_option maxRecDepth 100000 in
theorem ins_2_stay (g b cap : Nat) (m : Option Nat) (now turns : Int) (ts : List Tm) (k0 i0 k1 i1 : Int) (hk0 : In64 k0) (hi0 : In64 i0) (hk1 : In64 k1) (hi1 : In64 i1) (w : World) (hc : IsClock w b m now turns ts) (hr : Row2 w g k0 i0 k1 i1)
    (ho : ¬ ordT (findT ts k1 i1) (findT ts k0 i0) < 0) :
    Calls Try.prog 39 #[.slice (some ⟨g, 0, none⟩) 2 cap, .int .i64 0, .int .i64 2, .func (.func 32) #[.pointer (some ⟨b, 0, none⟩)] #[]] w fun e w' => e = .returned (.tuple #[]) ∧ Kept (fun _ => False) w w' := by
  obtain ⟨r0, r1, r2, r3⟩ := hr
  have hord := fun W (hW : Kept (fun _ => False) w W) => order_any b m now turns ts k1 i1 k0 i0 hk1 hi1 hk0 hi0 W (hc.kept hW (fun _ _ => id))
  have hrow : ∀ W, Kept (fun _ => False) w W → Row2 W g k0 i0 k1 i1 := fun W hW => Row2.kept ⟨r0, r1, r2, r3⟩ hW id
  generalize ordT (findT ts k1 i1) (findT ts k0 i0) = r at *
  have Hord : Hid (∀ W (_ : Kept (fun _ => False) w W), Calls Try.prog 32 #[.pointer (some ⟨b, 0, none⟩), keyV k1 i1, keyV k0 i0] W fun e w' => e = .returned (.int .i64 r) ∧ Kept (fun _ => False) W w') := hord
  have Hrow : Hid (∀ W, Kept (fun _ => False) w W → Row2 W g k0 i0 k1 i1) := hrow
  clear hord hrow hc
  go_enter Try.func39, Try.ntmps39
  go_wp2
  refine wp_loop_rounds 2 ?_
  rw [rounds_succ]
  go_wp2
  refine wp_loop_rounds 1 ?_
  rw [rounds_succ]
  go_wp2
  have hk0' : Kept (fun _ => False) w w.drew := (Kept.refl _ w).drew
  have hw0 : IntKind.i64.wrap ((1 : Int) - 1) = 0 := by decide
  have hz : ((0 : Int) ≤ 0) := Int.le_refl _
  go_region_held (fun W => W.cell? ⟨g, 0, none⟩ = some (.int .i64 k0) ∧ W.cell? ⟨g, 1, none⟩ = some (.int .i64 i0) ∧ W.cell? ⟨g, 2, none⟩ = some (.int .i64 k1) ∧ W.cell? ⟨g, 3, none⟩ = some (.int .i64 i1) ∧ Kept (fun _ => False) w W) (first | assumption | go_keep) (first
    | (go_at_call 32; refine (Hord _ (by assumption)).mono ?_; rintro e w1 ⟨rfl, hk1'⟩; have hk2' := hk0'.trans hk1'; have hr2 := Hrow _ hk2'; obtain ⟨u0, u1, u2, u3⟩ := hr2))
  go_wp2
  rw [rounds_succ]
  go_wp2
  go_end0
  exact ⟨rfl, hk2'⟩
theorem swap2 {w w1 : World} {g : Nat} {k0 i0 k1 i1 : Int} (h : Row2 w1 g k0 i0 k1 i1) (hk : Kept (fun _ => False) w w1) :
    Row2 ((((w1.setCell ⟨g, 2, none⟩ (.int .i64 k0)).setCell ⟨g, 3, none⟩ (.int .i64 i0)).setCell ⟨g, 0, none⟩ (.int .i64 k1)).setCell ⟨g, 1, none⟩ (.int .i64 i1)).drew g k1 i1 k0 i0 ∧
    KeptRow g w ((((w1.setCell ⟨g, 2, none⟩ (.int .i64 k0)).setCell ⟨g, 3, none⟩ (.int .i64 i0)).setCell ⟨g, 0, none⟩ (.int .i64 k1)).setCell ⟨g, 1, none⟩ (.int .i64 i1)).drew := by
  obtain ⟨u0, u1, u2, u3⟩ := h
  refine ⟨⟨?_, ?_, ?_, ?_⟩, ?_⟩
  · rw [World.cell?_drew, World.cell?_setCell_other _ _ _ _ (by simp)]
    exact World.cell?_setCell_same _ _ _ (u := .int .i64 k0) (by rw [World.cell?_setCell_other _ _ _ _ (by simp), World.cell?_setCell_other _ _ _ _ (by simp)]; exact u0)
  · rw [World.cell?_drew]
    exact World.cell?_setCell_same _ _ _ (u := .int .i64 i0) (by rw [World.cell?_setCell_other _ _ _ _ (by simp), World.cell?_setCell_other _ _ _ _ (by simp), World.cell?_setCell_other _ _ _ _ (by simp)]; exact u1)
  · rw [World.cell?_drew, World.cell?_setCell_other _ _ _ _ (by simp), World.cell?_setCell_other _ _ _ _ (by simp), World.cell?_setCell_other _ _ _ _ (by simp)]
    exact World.cell?_setCell_same _ _ _ u2
  · rw [World.cell?_drew, World.cell?_setCell_other _ _ _ _ (by simp), World.cell?_setCell_other _ _ _ _ (by simp)]
    exact World.cell?_setCell_same _ _ _ (u := .int .i64 i1) (by rw [World.cell?_setCell_other _ _ _ _ (by simp)]; exact u3)
  · refine ⟨?_, ((((((hk.shape (g := g) id).setCell _ rfl _).setCell _ rfl _).setCell _ rfl _).setCell _ rfl _)).drew⟩
    exact (((((hk.mono (T := fun i => i = g) (fun _ _ h => h.elim)).setCell (p := ⟨g, 2, none⟩) (Or.inr rfl) _).setCell (p := ⟨g, 3, none⟩) (Or.inr rfl) _).setCell (p := ⟨g, 0, none⟩) (Or.inr rfl) _).setCell (p := ⟨g, 1, none⟩) (Or.inr rfl) _).drew

set_option maxHeartbeats 2000000 in
set_option maxRecDepth 100000 in
theorem ins_2_swap (g b cap : Nat) (m : Option Nat) (now turns : Int) (ts : List Tm) (k0 i0 k1 i1 : Int) (hk0 : In64 k0) (hi0 : In64 i0) (hk1 : In64 k1) (hi1 : In64 i1) (w : World) (hc : IsClock w b m now turns ts) (hr : Row2 w g k0 i0 k1 i1) (hf : ∀ i, w.frozen? ⟨g, i, none⟩ = false)
    (ho : ordT (findT ts k1 i1) (findT ts k0 i0) < 0) :
    Calls Try.prog 39 #[.slice (some ⟨g, 0, none⟩) 2 cap, .int .i64 0, .int .i64 2, .func (.func 32) #[.pointer (some ⟨b, 0, none⟩)] #[]] w fun e w' => e = .returned (.tuple #[]) ∧ Row2 w' g k1 i1 k0 i0 ∧ KeptRow g w w' := by
  have hgl : g < w.heap.size := lt_of_cell hr.1
  obtain ⟨r0, r1, r2, r3⟩ := hr
  have hord := fun W (hW : Kept (fun _ => False) w W) => order_any b m now turns ts k1 i1 k0 i0 hk1 hi1 hk0 hi0 W (hc.kept hW (fun _ _ => id))
  have hrow : ∀ W, Kept (fun _ => False) w W → Row2 W g k0 i0 k1 i1 ∧ ∀ i, W.frozen? ⟨g, i, none⟩ = false := fun W hW => ⟨Row2.kept ⟨r0, r1, r2, r3⟩ hW id, fun i => (hW.frozen (p := ⟨g, i, none⟩) hgl id).trans (hf i)⟩
  generalize ordT (findT ts k1 i1) (findT ts k0 i0) = r at *
  have Hord : Hid (∀ W (_ : Kept (fun _ => False) w W), Calls Try.prog 32 #[.pointer (some ⟨b, 0, none⟩), keyV k1 i1, keyV k0 i0] W fun e w' => e = .returned (.int .i64 r) ∧ Kept (fun _ => False) W w') := hord
  have Hrow : Hid (∀ W, Kept (fun _ => False) w W → Row2 W g k0 i0 k1 i1 ∧ ∀ i, W.frozen? ⟨g, i, none⟩ = false) := hrow
  clear hord hrow hc hf
  go_enter Try.func39, Try.ntmps39
  go_wp2
  refine wp_loop_rounds 2 ?_
  rw [rounds_succ]
  go_wp2
  refine wp_loop_rounds 2 ?_
  rw [rounds_succ]
  go_wp2
  have hk0' : Kept (fun _ => False) w w.drew := (Kept.refl _ w).drew
  have hw0 : IntKind.i64.wrap ((1 : Int) - 1) = 0 := by decide
  have hz : ((0 : Int) ≤ 0) := Int.le_refl _
  go_region_held (fun W => W.cell? ⟨g, 0, none⟩ = some (.int .i64 k0) ∧ W.cell? ⟨g, 1, none⟩ = some (.int .i64 i0) ∧ W.cell? ⟨g, 2, none⟩ = some (.int .i64 k1) ∧ W.cell? ⟨g, 3, none⟩ = some (.int .i64 i1) ∧ Kept (fun _ => False) w W) (first | assumption | go_keep) (first
    | (go_at_call 32; refine (Hord _ (by assumption)).mono ?_; rintro e w1 ⟨rfl, hk1'⟩; have hk2' := hk0'.trans hk1'; have hr2 := Hrow _ hk2'; obtain ⟨⟨u0, u1, u2, u3⟩, uf⟩ := hr2))
  clear r0 r1 r2 r3
  go_wp2
  go_region
  go_wp2
  have fin := swap2 (w1 := w1) ⟨u0, u1, u2, u3⟩ hk2'
  generalize ((((w1.setCell ⟨g, 2, none⟩ (.int .i64 k0)).setCell ⟨g, 3, none⟩ (.int .i64 i0)).setCell ⟨g, 0, none⟩ (.int .i64 k1)).setCell ⟨g, 1, none⟩ (.int .i64 i1)).drew = W2 at fin ⊢
  have Fin : Hid (Row2 W2 g k1 i1 k0 i0 ∧ KeptRow g w W2) := fin
  clear fin u0 u1 u2 u3 uf
  rw [rounds_succ]
  go_wp2
  go_quiet (fail)
  go_wp2
  rw [rounds_succ]
  go_wp2
  go_end0
  exact ⟨rfl, Fin.1, Fin.2.1.drewN _, Fin.2.2⟩
/-- The two keys, the lesser one first. -/
def swaps (ts : List Tm) (k0 i0 k1 i1 : Int) : Bool := decide (ordT (findT ts k1 i1) (findT ts k0 i0) < 0)
def Sorted2 (W : World) (g : Nat) (q : Bool) (k0 i0 k1 i1 : Int) : Prop := Row2 W g (if q then k1 else k0) (if q then i1 else i0) (if q then k0 else k1) (if q then i0 else i1)

theorem ins_2 (g b cap : Nat) (m : Option Nat) (now turns : Int) (ts : List Tm) (k0 i0 k1 i1 : Int) (hk0 : In64 k0) (hi0 : In64 i0) (hk1 : In64 k1) (hi1 : In64 i1) (w : World) (hc : IsClock w b m now turns ts) (hr : Row2 w g k0 i0 k1 i1) (hf : ∀ i, w.frozen? ⟨g, i, none⟩ = false) :
    Calls Try.prog 39 #[.slice (some ⟨g, 0, none⟩) 2 cap, .int .i64 0, .int .i64 2, .func (.func 32) #[.pointer (some ⟨b, 0, none⟩)] #[]] w fun e w' => e = .returned (.tuple #[]) ∧ Sorted2 w' g (swaps ts k0 i0 k1 i1) k0 i0 k1 i1 ∧ KeptRow g w w' := by
  by_cases h : ordT (findT ts k1 i1) (findT ts k0 i0) < 0
  · have e1 : swaps ts k0 i0 k1 i1 = true := by simp [swaps, h]
    rw [e1]
    exact ins_2_swap g b cap m now turns ts k0 i0 k1 i1 hk0 hi0 hk1 hi1 w hc hr hf h
  · have e1 : swaps ts k0 i0 k1 i1 = false := by simp [swaps, h]
    rw [e1]
    refine (ins_2_stay g b cap m now turns ts k0 i0 k1 i1 hk0 hi0 hk1 hi1 w hc hr h).mono ?_
    rintro e w' ⟨rfl, hk⟩
    exact ⟨rfl, hr.kept hk id, hk.mono (fun _ _ h => h.elim), hk.shape id⟩

set_option maxHeartbeats 1000000 in
set_option maxRecDepth 100000 in
theorem pdq_2 (g b cap : Nat) (l : Int) (m : Option Nat) (now turns : Int) (ts : List Tm) (k0 i0 k1 i1 : Int) (hk0 : In64 k0) (hi0 : In64 i0) (hk1 : In64 k1) (hi1 : In64 i1) (w : World) (hc : IsClock w b m now turns ts) (hr : Row2 w g k0 i0 k1 i1) (hf : ∀ i, w.frozen? ⟨g, i, none⟩ = false) :
    Calls Try.prog 34 #[.slice (some ⟨g, 0, none⟩) 2 cap, .int .i64 0, .int .i64 2, .int .i64 l, .func (.func 32) #[.pointer (some ⟨b, 0, none⟩)] #[]] w fun e w' => e = .returned (.tuple #[]) ∧ Sorted2 w' g (swaps ts k0 i0 k1 i1) k0 i0 k1 i1 ∧ KeptRow g w w' := by
  have hi2 : Hid (∀ cap, Calls Try.prog 39 #[.slice (some ⟨g, 0, none⟩) 2 cap, .int .i64 0, .int .i64 2, .func (.func 32) #[.pointer (some ⟨b, 0, none⟩)] #[]] w fun e w' => e = .returned (.tuple #[]) ∧ Sorted2 w' g (swaps ts k0 i0 k1 i1) k0 i0 k1 i1 ∧ KeptRow g w w') :=
    fun cap => ins_2 g b cap m now turns ts k0 i0 k1 i1 hk0 hi0 hk1 hi1 w hc hr hf
  generalize swaps ts k0 i0 k1 i1 = q at *
  clear hc hr hf
  go_enter Try.func34, Try.ntmps34
  go_wp2
  refine wp_loop_rounds 1 ?_
  rw [rounds_succ]
  go_wp2_with (go_at_call 39; refine (hi2 _).mono ?_; rintro e w' ⟨rfl, h1, h2⟩)
  (try simp only [Exit.inBlock, Exit.then]); refine bodyPost_ret (results_none rfl _ _ _) rfl ?_
  exact ⟨rfl, h1, h2⟩

theorem sort_2 (g b cap : Nat) (m : Option Nat) (now turns : Int) (ts : List Tm) (k0 i0 k1 i1 : Int) (hk0 : In64 k0) (hi0 : In64 i0) (hk1 : In64 k1) (hi1 : In64 i1) (w : World) (hc : IsClock w b m now turns ts) (hr : Row2 w g k0 i0 k1 i1) (hf : ∀ i, w.frozen? ⟨g, i, none⟩ = false) :
    Calls Try.prog 31 #[.slice (some ⟨g, 0, none⟩) 2 cap, .func (.func 32) #[.pointer (some ⟨b, 0, none⟩)] #[]] w fun e w' => e = .returned (.tuple #[]) ∧ Sorted2 w' g (swaps ts k0 i0 k1 i1) k0 i0 k1 i1 ∧ KeptRow g w w' := by
  have hi2 : Hid (∀ l cap, Calls Try.prog 34 #[.slice (some ⟨g, 0, none⟩) 2 cap, .int .i64 0, .int .i64 2, .int .i64 l, .func (.func 32) #[.pointer (some ⟨b, 0, none⟩)] #[]] w fun e w' => e = .returned (.tuple #[]) ∧ Sorted2 w' g (swaps ts k0 i0 k1 i1) k0 i0 k1 i1 ∧ KeptRow g w w') :=
    fun l cap => pdq_2 g b cap l m now turns ts k0 i0 k1 i1 hk0 hi0 hk1 hi1 w hc hr hf
  generalize swaps ts k0 i0 k1 i1 = q at *
  clear hc hr hf
  go_enter Try.func31, Try.ntmps31
  go_wp2_with (first
    | (go_at_call 35; refine (len_2 _).mono ?_; rintro e w' ⟨⟨l, rfl⟩, rfl⟩)
    | (go_at_call 34; refine (hi2 _ _).mono ?_; rintro e w' ⟨rfl, h1, h2⟩))
  go_end0
  exact ⟨rfl, h1, h2⟩
end Go.Proofs.Ytmclldidmpeahaa
