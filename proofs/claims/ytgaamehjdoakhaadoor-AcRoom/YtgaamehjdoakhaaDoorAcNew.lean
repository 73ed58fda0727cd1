/- The contract of ac.New without services: a concentrator without any session, or ErrArg. -/
import Derived.Test.YtgaamehjdoakhaaDoorAcTake
namespace Go.Proofs.YtgaamehjdoakhaaDoor
open Go.RowKit

/-- A concentrator that was made behind w, and nothing of w has turned. -/
def CMine (w W : World) (b : Nat) (c : Cs) : Prop := CNext (fun _ => False) w W b c

def newF (m : List UInt8) (name secret : ByteArray) (most : Int) : Cs := ⟨m, name, secret, most, [], 0, []⟩

set_option maxRecDepth 100000 in
theorem indexFunc_none (f : Value) (w : World) : Calls Tryd.prog 54 #[.slice none 0 0, f] w fun e w' => e = .returned (.int .i64 (-1)) ∧ w' = w := by
  go_enter Tryd.func54, Tryd.ntmps54
  go_wp2
  refine wp_loop_rounds 1 ?_
  rw [rounds_succ]
  go_wp2
  go_ret
  exact ⟨rfl, rfl⟩
set_option maxRecDepth 100000 in
theorem containsFunc_none (f : Value) (w : World) : Calls Tryd.prog 36 #[.slice none 0 0, f] w fun e w' => e = .returned (.bool false) ∧ w' = w := by
  go_enter Tryd.func36, Tryd.ntmps36
  go_wp2_with (go_at_call 54; refine (indexFunc_none _ _).mono ?_; rintro e w' ⟨rfl, rfl⟩)
  go_ret
  exact ⟨rfl, rfl⟩
set_option maxRecDepth 100000 in
theorem cloneS_none (w : World) : Calls Tryd.prog 38 #[.slice none 0 0] w fun e w' => e = .returned (.slice none 0 0) ∧ w' = w := by
  have hE : ∀ W : World, Sem.run Tryd.prog (binOp .eql 30 (.slice none 0 0) (.slice none 0 0)) W = .ok (.bool true) W := fun W => by kernel_rfl
  go_enter Tryd.func38, Tryd.ntmps38
  go_wp2
  go_ret
  exact ⟨rfl, rfl⟩

theorem good_new {m : List UInt8} (hm : m.length = 6) {name secret : ByteArray} (h1 : 1 ≤ name.size) (h2 : name.size ≤ 40) (h3 : secret.size ≤ 1000) {most : Int} (h4 : 1 ≤ most) (h5 : most ≤ 60) : Good (newF m name secret most) :=
  ⟨hm, h1, h2, h3, h4, h5, by simp [newF]; omega, by simp [newF], by simp [newF], by simp [newF], by simp [newF], by simp [newF, eachF], by simp [newF], by simp [newF]⟩

set_option maxHeartbeats 2000000 in
set_option maxRecDepth 100000 in
theorem new_arg (m : List UInt8) (hm : m.length = 6) (name secret : ByteArray) (hn : name.toList ≠ []) (hn2 : name.size ≤ 40) (most : Int) (hmost : most < 1 ∨ 60 < most) (w : World) :
    Calls Tryd.prog 15 #[.agg (Lib.byteCells m).toArray, .string name, .slice none 0 0, .string secret, .int .i64 most] w fun e w' => e = .returned (.tuple #[.pointer none, .int .i64 1]) ∧ Kept (fun _ => False) w w' := by
  obtain ⟨x0, x1, x2, x3, x4, x5, hx⟩ := six_cells hm
  rw [hx]
  have hne : name.toList.isEmpty = false := by simpa using hn
  by_cases h1 : most < 1
  · go_enter Tryd.func15, Tryd.ntmps15
    go_wp2_with (go_at_call 36; refine (containsFunc_none _ _).mono ?_; rintro e w' ⟨rfl, rfl⟩)
    all_goals go_ret2
    all_goals exact ⟨rfl, (Kept.refl _ w).alloc _⟩
  · have h2 : 60 < most := by omega
    go_enter Tryd.func15, Tryd.ntmps15
    go_wp2_with (go_at_call 36; refine (containsFunc_none _ _).mono ?_; rintro e w' ⟨rfl, rfl⟩)
    all_goals go_ret2
    all_goals exact ⟨rfl, (Kept.refl _ w).alloc _⟩

set_option maxHeartbeats 2000000 in
set_option maxRecDepth 100000 in
theorem new_ok (m : List UInt8) (hm : m.length = 6) (name secret : ByteArray) (hn : name.toList ≠ []) (hn2 : name.size ≤ 40) (most : Int) (h1 : 1 ≤ most) (h2 : most ≤ 60) (w : World) :
    Calls Tryd.prog 15 #[.agg (Lib.byteCells m).toArray, .string name, .slice none 0 0, .string secret, .int .i64 most] w fun e w' => e = .returned (.tuple #[.pointer (some ⟨w.heap.size + 2, 0, none⟩), .int .i64 0]) ∧ CMine w w' (w.heap.size + 2) (newF m name secret most) := by
  obtain ⟨x0, x1, x2, x3, x4, x5, hx⟩ := six_cells hm
  have hne : name.toList.isEmpty = false := by simpa using hn
  obtain ⟨w1, hw1⟩ : ∃ w1, w1 = w.alloc (.cells #[.int .u8 x0, .int .u8 x1, .int .u8 x2, .int .u8 x3, .int .u8 x4, .int .u8 x5] 23) := ⟨_, rfl⟩
  have Hw1 := hid hw1
  have hk1 : Kept (fun _ => False) w w1 := by rw [hw1]; exact (Kept.refl _ w).alloc _
  have hs1 : w1.heap.size = w.heap.size + 1 := by rw [hw1]; simp
  have B1 : Box6 w1 w.heap.size (.int .u8 x0) (.int .u8 x1) (.int .u8 x2) (.int .u8 x3) (.int .u8 x4) (.int .u8 x5) := by rw [hw1]; exact box6_new w _ _ _ _ _ _ _
  have r0 : ∀ W, Kept (fun _ => False) w1 W → W.cell? ⟨w.heap.size, 0, none⟩ = some (.int .u8 x0) := fun W h => (B1.kept h).c0
  have r1 : ∀ W, Kept (fun _ => False) w1 W → W.cell? ⟨w.heap.size, 1, none⟩ = some (.int .u8 x1) := fun W h => (B1.kept h).c1
  have r2 : ∀ W, Kept (fun _ => False) w1 W → W.cell? ⟨w.heap.size, 2, none⟩ = some (.int .u8 x2) := fun W h => (B1.kept h).c2
  have r3 : ∀ W, Kept (fun _ => False) w1 W → W.cell? ⟨w.heap.size, 3, none⟩ = some (.int .u8 x3) := fun W h => (B1.kept h).c3
  have r4 : ∀ W, Kept (fun _ => False) w1 W → W.cell? ⟨w.heap.size, 4, none⟩ = some (.int .u8 x4) := fun W h => (B1.kept h).c4
  have r5 : ∀ W, Kept (fun _ => False) w1 W → W.cell? ⟨w.heap.size, 5, none⟩ = some (.int .u8 x5) := fun W h => (B1.kept h).c5
  have Hfin : Hid (CMine w (((w1.alloc (.map #[] 0)).alloc (.cells #[.int .u8 x0, .int .u8 x1, .int .u8 x2, .int .u8 x3, .int .u8 x4, .int .u8 x5, .string name, .slice none 0 0, .string secret, .int .i64 most, .map (some (w.heap.size + 1)), .int .i64 0, .slice none 0 0] 34)).drew) (w.heap.size + 2) (newF m name secret most)) := by
    have hz : (w1.alloc (.map #[] 0)).heap.size = w.heap.size + 2 := by simp [hs1]
    refine ⟨ofConc (w.heap.size + 2) (w.heap.size + 1) (.slice none 0 0), ⟨w.heap.size + 1, .slice none 0 0, ⟨?_, ?_, ?_⟩, fun i => Iff.rfl⟩, fun i hi => ?_, ?_⟩
    · have h := heap_alloc_new (w1.alloc (.map #[] 0)) (.cells #[.int .u8 x0, .int .u8 x1, .int .u8 x2, .int .u8 x3, .int .u8 x4, .int .u8 x5, .string name, .slice none 0 0, .string secret, .int .i64 most, .map (some (w.heap.size + 1)), .int .i64 0, .slice none 0 0] 34)
      rw [hz] at h
      unfold concList newF
      simp only []
      rw [hx]
      exact h
    · have h := Assoc.made w1 Tryd.prog 27
      rw [hs1] at h
      exact (h.alloc _).same rfl
    · exact World.ownsRow_nil _ _ _ _
    · right
      rcases hi with hi | hi | hi
      · omega
      · omega
      · cases hi
    · exact ((hk1.alloc _).alloc _).drew
  rw [hx]
  have hlt1 : ¬ most < 1 := by omega
  have hgt : ¬ 60 < most := by omega
  clear hw1 B1 hx
  go_enter Tryd.func15, Tryd.ntmps15
  go_wp2_with (go_at_call 36; refine (containsFunc_none _ _).mono ?_; rintro e w' ⟨rfl, rfl⟩)
  rw [← Hw1.out]
  refine wp_region_held_drew (S := Kept (fun _ => False) w1) (by kernel_rfl) ((Kept.refl _ w1).drew) (fun hSd => ?_)
  refine wpAnyH_take (i := 0) (v := ?_) rfl (by kernel_rfl) (by kernel_rfl) (by kernel_rfl) (fun _ _ _ h => h) (Or.inl ⟨by kernel_rfl, fun W hSW => by go_simp; try with_reducible rfl⟩) (by assumption) ?_
  try simp only [List.getElem_toArray]
  try simp only [List.getElem_cons_succ]
  try simp only [List.getElem_cons_zero]
  try simp only [Act.put]
  try simp only [List.setIfInBounds_toArray]
  try simp only [List.set_cons_succ]
  try simp only [List.set_cons_zero]
  refine wpAnyH_take (i := 1) (v := ?_) rfl (by kernel_rfl) (by kernel_rfl) (by kernel_rfl) (fun _ _ _ h => h) (Or.inl ⟨by kernel_rfl, fun W hSW => by go_simp; try with_reducible rfl⟩) (by assumption) ?_
  try simp only [List.getElem_toArray]
  try simp only [List.getElem_cons_succ]
  try simp only [List.getElem_cons_zero]
  try simp only [Act.put]
  try simp only [List.setIfInBounds_toArray]
  try simp only [List.set_cons_succ]
  try simp only [List.set_cons_zero]
  refine wpAnyH_take (i := 2) (v := ?_) rfl (by kernel_rfl) (by kernel_rfl) (by kernel_rfl) (fun _ _ _ h => h) (Or.inl ⟨by kernel_rfl, fun W hSW => by go_simp; try with_reducible rfl⟩) (by assumption) ?_
  try simp only [List.getElem_toArray]
  try simp only [List.getElem_cons_succ]
  try simp only [List.getElem_cons_zero]
  try simp only [Act.put]
  try simp only [List.setIfInBounds_toArray]
  try simp only [List.set_cons_succ]
  try simp only [List.set_cons_zero]
  refine wpAnyH_take (i := 4) (v := ?_) rfl (by kernel_rfl) (by kernel_rfl) (by kernel_rfl) (fun _ _ _ h => h) (Or.inl ⟨by kernel_rfl, fun W hSW => by go_simp; try with_reducible rfl⟩) (by assumption) ?_
  try simp only [List.getElem_toArray]
  try simp only [List.getElem_cons_succ]
  try simp only [List.getElem_cons_zero]
  try simp only [Act.put]
  try simp only [List.setIfInBounds_toArray]
  try simp only [List.set_cons_succ]
  try simp only [List.set_cons_zero]
  refine wpAnyH_take (i := 5) (v := ?_) rfl (by kernel_rfl) (by kernel_rfl) (by kernel_rfl) (fun _ _ _ h => h) (Or.inl ⟨by kernel_rfl, fun W hSW => by go_simp; try with_reducible rfl⟩) (by assumption) ?_
  try simp only [List.getElem_toArray]
  try simp only [List.getElem_cons_succ]
  try simp only [List.getElem_cons_zero]
  try simp only [Act.put]
  try simp only [List.setIfInBounds_toArray]
  try simp only [List.set_cons_succ]
  try simp only [List.set_cons_zero]
  refine wpAnyH_ready (rs := [3, 6]) (by kernel_rfl) (by simp) ?_
  refine AllReadyH.cons rfl (fun K hK => ?_) (AllReadyH.cons rfl (fun K hK => ?_) AllReadyH.nil)
  · go_simp
    refine (cloneS_none _).mono ?_
    rintro e w2 ⟨rfl, rfl⟩
    refine hK.out _ _ ((Kept.refl _ w1).drew) (fun _ => ?_)
    clear hK K
    try simp only [List.getElem_toArray]
    try simp only [List.getElem_cons_succ]
    try simp only [List.getElem_cons_zero]
    try simp only [Act.put]
    try simp only [List.setIfInBounds_toArray]
    try simp only [List.set_cons_succ]
    try simp only [List.set_cons_zero]
    refine wpAnyH_ready (rs := [6]) (by kernel_rfl) (by simp) ?_
    refine AllReadyH.cons rfl (fun K hK => ?_) AllReadyH.nil
    go_simp
    refine hK.out _ _ (((Kept.refl _ w1).alloc _).drew) (fun _ => ?_)
    clear hK K
    try dsimp only
    try simp only [List.getElem_toArray]
    try simp only [List.getElem_cons_succ]
    try simp only [List.getElem_cons_zero]
    try simp only [Act.put]
    try simp only [List.setIfInBounds_toArray]
    try simp only [List.set_cons_succ]
    try simp only [List.set_cons_zero]
    refine wpAnyH_take (i := 7) (v := ?_) rfl (by kernel_rfl) (by kernel_rfl) (by kernel_rfl) (fun _ _ _ h => h) (Or.inl ⟨by kernel_rfl, fun W hSW => by go_simp; try with_reducible rfl⟩) (by assumption) ?_
    try simp only [List.getElem_toArray]
    try simp only [List.getElem_cons_succ]
    try simp only [List.getElem_cons_zero]
    try simp only [Act.put]
    try simp only [List.setIfInBounds_toArray]
    try simp only [List.set_cons_succ]
    try simp only [List.set_cons_zero]
    refine wpAnyH_ready (rs := [8]) (by kernel_rfl) (by simp) ?_
    refine AllReadyH.cons rfl (fun K hK => ?_) AllReadyH.nil
    go_simp
    refine hK.out _ _ ((((Kept.refl _ w1).alloc _).alloc _).drew) (fun _ => ?_)
    clear hK K
    try simp only [List.getElem_toArray]
    try simp only [List.getElem_cons_succ]
    try simp only [List.getElem_cons_zero]
    try simp only [Act.put]
    try simp only [List.setIfInBounds_toArray]
    try simp only [List.set_cons_succ]
    try simp only [List.set_cons_zero]
    refine wpAnyH_take (i := 9) (v := ?_) rfl (by kernel_rfl) (by kernel_rfl) (by kernel_rfl) (fun _ _ _ h => h) (Or.inl ⟨by kernel_rfl, fun W hSW => by go_simp; try with_reducible rfl⟩) (by assumption) ?_
    try simp only [List.getElem_toArray]
    try simp only [List.getElem_cons_succ]
    try simp only [List.getElem_cons_zero]
    try simp only [Act.put]
    try simp only [List.setIfInBounds_toArray]
    try simp only [List.set_cons_succ]
    try simp only [List.set_cons_zero]
    refine wpAnyH_take (i := 10) (v := ?_) rfl (by kernel_rfl) (by kernel_rfl) (by kernel_rfl) (fun _ _ _ h => h) (Or.inl ⟨by kernel_rfl, fun W hSW => by go_simp; try with_reducible rfl⟩) (by assumption) ?_
    try simp only [List.getElem_toArray]
    try simp only [List.getElem_cons_succ]
    try simp only [List.getElem_cons_zero]
    try simp only [Act.put]
    try simp only [List.setIfInBounds_toArray]
    try simp only [List.set_cons_succ]
    try simp only [List.set_cons_zero]
    refine wpAnyH_done (by kernel_rfl) ?_ _
    go_wp2
    go_ret2
    exact ⟨rfl, Hfin.out⟩
  · go_simp
    refine hK.out _ _ (((Kept.refl _ w1).alloc _).drew) (fun _ => ?_)
    clear hK K
    try dsimp only
    try simp only [List.getElem_toArray]
    try simp only [List.getElem_cons_succ]
    try simp only [List.getElem_cons_zero]
    try simp only [Act.put]
    try simp only [List.setIfInBounds_toArray]
    try simp only [List.set_cons_succ]
    try simp only [List.set_cons_zero]
    refine wpAnyH_ready (rs := [3]) (by kernel_rfl) (by simp) ?_
    refine AllReadyH.cons rfl (fun K hK => ?_) AllReadyH.nil
    go_simp
    refine (cloneS_none _).mono ?_
    rintro e w2 ⟨rfl, rfl⟩
    refine hK.out _ _ (((Kept.refl _ w1).alloc _).drew) (fun _ => ?_)
    clear hK K
    try simp only [List.getElem_toArray]
    try simp only [List.getElem_cons_succ]
    try simp only [List.getElem_cons_zero]
    try simp only [Act.put]
    try simp only [List.setIfInBounds_toArray]
    try simp only [List.set_cons_succ]
    try simp only [List.set_cons_zero]
    refine wpAnyH_take (i := 7) (v := ?_) rfl (by kernel_rfl) (by kernel_rfl) (by kernel_rfl) (fun _ _ _ h => h) (Or.inl ⟨by kernel_rfl, fun W hSW => by go_simp; try with_reducible rfl⟩) (by assumption) ?_
    try simp only [List.getElem_toArray]
    try simp only [List.getElem_cons_succ]
    try simp only [List.getElem_cons_zero]
    try simp only [Act.put]
    try simp only [List.setIfInBounds_toArray]
    try simp only [List.set_cons_succ]
    try simp only [List.set_cons_zero]
    refine wpAnyH_ready (rs := [8]) (by kernel_rfl) (by simp) ?_
    refine AllReadyH.cons rfl (fun K hK => ?_) AllReadyH.nil
    go_simp
    refine hK.out _ _ ((((Kept.refl _ w1).alloc _).alloc _).drew) (fun _ => ?_)
    clear hK K
    try simp only [List.getElem_toArray]
    try simp only [List.getElem_cons_succ]
    try simp only [List.getElem_cons_zero]
    try simp only [Act.put]
    try simp only [List.setIfInBounds_toArray]
    try simp only [List.set_cons_succ]
    try simp only [List.set_cons_zero]
    refine wpAnyH_take (i := 9) (v := ?_) rfl (by kernel_rfl) (by kernel_rfl) (by kernel_rfl) (fun _ _ _ h => h) (Or.inl ⟨by kernel_rfl, fun W hSW => by go_simp; try with_reducible rfl⟩) (by assumption) ?_
    try simp only [List.getElem_toArray]
    try simp only [List.getElem_cons_succ]
    try simp only [List.getElem_cons_zero]
    try simp only [Act.put]
    try simp only [List.setIfInBounds_toArray]
    try simp only [List.set_cons_succ]
    try simp only [List.set_cons_zero]
    refine wpAnyH_take (i := 10) (v := ?_) rfl (by kernel_rfl) (by kernel_rfl) (by kernel_rfl) (fun _ _ _ h => h) (Or.inl ⟨by kernel_rfl, fun W hSW => by go_simp; try with_reducible rfl⟩) (by assumption) ?_
    try simp only [List.getElem_toArray]
    try simp only [List.getElem_cons_succ]
    try simp only [List.getElem_cons_zero]
    try simp only [Act.put]
    try simp only [List.setIfInBounds_toArray]
    try simp only [List.set_cons_succ]
    try simp only [List.set_cons_zero]
    refine wpAnyH_done (by kernel_rfl) ?_ _
    go_wp2
    go_ret2
    exact ⟨rfl, Hfin.out⟩
end Go.Proofs.YtgaamehjdoakhaaDoor
