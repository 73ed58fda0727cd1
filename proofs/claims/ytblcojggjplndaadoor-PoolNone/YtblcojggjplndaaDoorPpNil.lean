/- The contracts of a nil pool's calls, and of a zero pool. -/
import Derived.Test.YtblcojggjplndaaDoorPpOne
namespace Go.Proofs.YtblcojggjplndaaDoor
open Go.RowKit

set_option maxHeartbeats 1000000 in
set_option maxRecDepth 100000 in
theorem take_nil (t s : Int) (w : World) : Calls Tryd.prog 11 #[.pointer none, .agg #[.int .i64 t, .int .i64 s]] w fun e w' => e = .returned (.tuple #[.agg #[.int .u8 0, .int .u8 0, .int .u8 0, .int .u8 0], .int .i64 10]) ∧ Kept (fun _ => False) w w' := by
  have hk0 := (Kept.refl (fun _ => False) w).alloc (.cells #[.int .i64 t, .int .i64 s] 34)
  have K0 := hid (hk0.alloc (.cells #[.int .u8 0, .int .u8 0, .int .u8 0, .int .u8 0] 23))
  have H4 := hid (four4_new (w.alloc (.cells #[.int .i64 t, .int .i64 s] 34)) 23 (.int .u8 0) (.int .u8 0) (.int .u8 0) (.int .u8 0))
  have hsz : (w.alloc (.cells #[.int .i64 t, .int .i64 s] 34)).heap.size = w.heap.size + 1 := by simp
  rw [hsz] at H4
  clear hk0 hsz
  go_enter Tryd.func11, Tryd.ntmps11
  go_upto_region 1 with fail
  generalize (w.alloc (.cells #[.int .i64 t, .int .i64 s] 34)).alloc (.cells #[.int .u8 0, .int .u8 0, .int .u8 0, .int .u8 0] 23) = W at *
  obtain ⟨⟨o0, o1, o2, o3⟩, g⟩ := H4.out
  have f0 := g 0
  have f1 := g 1
  have f2 := g 2
  have f3 := g 3
  go_wp2
  refine bodyPost_ret (v := .tuple #[.agg #[.int .u8 0, .int .u8 0, .int .u8 0, .int .u8 0], .int .i64 10]) (by simp [results, Tryd.results11, go_sem, o0, o1, o2, o3]) rfl ⟨rfl, ?_⟩
  exact (((K0.out.setCell (Or.inl (Nat.le_succ _)) _).setCell (Or.inl (Nat.le_succ _)) _).setCell (Or.inl (Nat.le_succ _)) _).setCell (Or.inl (Nat.le_succ _)) _

set_option maxHeartbeats 1000000 in
set_option maxRecDepth 100000 in
theorem has_nil (t s : Int) (w : World) : Calls Tryd.prog 15 #[.pointer none, .agg #[.int .i64 t, .int .i64 s]] w fun e w' => e = .returned (.tuple #[.agg #[.int .u8 0, .int .u8 0, .int .u8 0, .int .u8 0], .bool false]) ∧ Kept (fun _ => False) w w' := by
  have hk0 := (Kept.refl (fun _ => False) w).alloc (.cells #[.int .i64 t, .int .i64 s] 34)
  have K0 := hid (hk0.alloc (.cells #[.int .u8 0, .int .u8 0, .int .u8 0, .int .u8 0] 23))
  have H4 := hid (four4_new (w.alloc (.cells #[.int .i64 t, .int .i64 s] 34)) 23 (.int .u8 0) (.int .u8 0) (.int .u8 0) (.int .u8 0))
  have hsz : (w.alloc (.cells #[.int .i64 t, .int .i64 s] 34)).heap.size = w.heap.size + 1 := by simp
  rw [hsz] at H4
  clear hk0 hsz
  go_enter Tryd.func15, Tryd.ntmps15
  go_upto_region 1 with fail
  generalize (w.alloc (.cells #[.int .i64 t, .int .i64 s] 34)).alloc (.cells #[.int .u8 0, .int .u8 0, .int .u8 0, .int .u8 0] 23) = W at *
  obtain ⟨⟨o0, o1, o2, o3⟩, g⟩ := H4.out
  have f0 := g 0
  have f1 := g 1
  have f2 := g 2
  have f3 := g 3
  go_wp2
  refine bodyPost_ret (v := .tuple #[.agg #[.int .u8 0, .int .u8 0, .int .u8 0, .int .u8 0], .bool false]) (by simp [results, Tryd.results15, go_sem, o0, o1, o2, o3]) rfl ⟨rfl, ?_⟩
  exact (((K0.out.setCell (Or.inl (Nat.le_succ _)) _).setCell (Or.inl (Nat.le_succ _)) _).setCell (Or.inl (Nat.le_succ _)) _).setCell (Or.inl (Nat.le_succ _)) _

set_option maxHeartbeats 1000000 in
set_option maxRecDepth 100000 in
theorem give_nil (t s : Int) (w : World) : Calls Tryd.prog 13 #[.pointer none, .agg #[.int .i64 t, .int .i64 s]] w fun e w' => e = .returned (.int .i64 3) ∧ Kept (fun _ => False) w w' := by
  have K0 := hid ((Kept.refl (fun _ => False) w).alloc (.cells #[.int .i64 t, .int .i64 s] 34))
  have H2 := hid (box2_new w 34 (.int .i64 t) (.int .i64 s))
  have HH := hid (has_nil t s)
  go_enter Tryd.func13, Tryd.ntmps13
  go_upto_region 1 with fail
  generalize w.alloc (.cells #[.int .i64 t, .int .i64 s] 34) = W at *
  obtain ⟨⟨c0, c1⟩, _⟩ := H2.out
  go_wp2_with fail
  refine (HH.out _).mono ?_
  rintro e w1 ⟨rfl, hk1⟩
  have K1 := hid (K0.out.trans hk1)
  clear hk1 c0 c1
  go_wp2
  go_ret
  exact ⟨rfl, K1.out.alloc _⟩

set_option maxHeartbeats 1000000 in
set_option maxRecDepth 100000 in
theorem free_nil (w : World) : Calls Tryd.prog 19 #[.pointer none] w fun e w' => e = .returned (.int .i64 0) ∧ w' = w := by
  go_enter Tryd.func19, Tryd.ntmps19
  go_wp2
  go_ret
  exact ⟨rfl, rfl⟩

/-- A zero pool. -/
theorem zero_in (w : World) (base : Nat) : PpIn (w.alloc (.cells #[.int .u8 0, .int .u8 0, .int .u8 0, .int .u8 0, .int .i64 0, .map none, .map none] 59)) base w.heap.size none none ad0 [] :=
  ⟨heap_alloc_new w _, fun _ => rfl, fun _ => rfl, fun _ e => (by cases e), fun _ e => (by cases e), fun _ _ e => (by cases e), ⟨⟨by decide, fun _ he => absurd he List.not_mem_nil⟩, fun _ _ _ _ h => (by cases h), by decide⟩⟩
end Go.Proofs.YtblcojggjplndaaDoor
