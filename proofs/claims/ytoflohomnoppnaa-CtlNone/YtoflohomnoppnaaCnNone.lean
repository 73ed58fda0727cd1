/- Calls of no end: a nil one, or a zero one. (Written by gen_cnnone.py.) -/
import Derived.Test.YtoflohomnoppnaaCnAlive
namespace Go.Proofs.Ytoflohomnoppnaa
open Go.RowKit

/-- v is no end, in every world that comes of w. -/
structure ENone (w : World) (v : Value) : Prop where
  out : ∀ W, Kept (fun _ => False) w W → Calls Try.prog 13 #[v] W fun e w' => e = .returned (.bool true) ∧ w' = W
theorem ENone.kept {w w' : World} {v : Value} (h : ENone w v) (hk : Kept (fun _ => False) w w') : ENone w' v := ⟨fun W k => h.out W (hk.trans k)⟩
theorem enone_nil (w : World) : ENone w (.pointer none) := ⟨fun W _ => dead_nil W⟩
theorem enone_zero {w : World} {b : Nat} (h : w.cell? ⟨b, 2, none⟩ = some (.int .i64 0)) : ENone w (.pointer (some ⟨b, 0, none⟩)) := ⟨fun W k => dead_zero b W ((k.cell (p := ⟨b, 2, none⟩) (lt_of_cell h) id).trans h)⟩

set_option maxHeartbeats 4000000 in
set_option maxRecDepth 100000 in
theorem enone_tick (v : Value) (w : World) (h : ENone w v) : Calls Try.prog 11 #[v] w fun e w' => e = .returned (.tuple #[]) ∧ Kept (fun _ => False) w w' := by
  have H1 := hid h
  clear h
  go_enter Try.func11, Try.ntmps11
  go_wp2_with fail
  refine (H1.out.out _ (Kept.refl _ w)).mono ?_
  rintro e w1 ⟨rfl, hq⟩
  rw [hq]
  clear hq w1 H1
  go_wp2
  go_returns
  exact ⟨rfl, Kept.refl _ _⟩

set_option maxHeartbeats 4000000 in
set_option maxRecDepth 100000 in
theorem enone_send (v : Value) (x : ByteArray) (w : World) (h : ENone w v) : Calls Try.prog 14 #[v, .string x] w fun e w' => e = .returned (.int .i64 20) ∧ Kept (fun _ => False) w w' := by
  have H1 := hid h
  clear h
  go_enter Try.func14, Try.ntmps14
  go_wp2_with fail
  refine (H1.out.out _ (Kept.refl _ w)).mono ?_
  rintro e w1 ⟨rfl, hq⟩
  rw [hq]
  clear hq w1 H1
  go_wp2
  go_returns
  exact ⟨rfl, Kept.refl _ _⟩

set_option maxHeartbeats 4000000 in
set_option maxRecDepth 100000 in
theorem enone_out (v : Value) (w : World) (h : ENone w v) : Calls Try.prog 16 #[v] w fun e w' => e = .returned (.slice none 0 0) ∧ Kept (fun _ => False) w w' := by
  have H1 := hid h
  clear h
  go_enter Try.func16, Try.ntmps16
  go_wp2_with fail
  refine (H1.out.out _ (Kept.refl _ w)).mono ?_
  rintro e w1 ⟨rfl, hq⟩
  rw [hq]
  clear hq w1 H1
  go_wp2
  go_returns
  exact ⟨rfl, Kept.refl _ _⟩

set_option maxHeartbeats 4000000 in
set_option maxRecDepth 100000 in
theorem enone_take (v : Value) (i : Ite) (w : World) (h : ENone w v) : Calls Try.prog 15 #[v, iteV i] w fun e w' => e = .returned (.slice none 0 0) ∧ Kept (fun _ => False) w w' := by
  have H1 := hid h
  have K0 := hid ((Kept.refl (fun _ => False) w).alloc (.cells #[.int .i64 i.ns, .int .i64 i.nr, .string i.body] 25))
  clear h
  unfold iteV
  go_enter Try.func15, Try.ntmps15
  go_upto_region 1 with fail
  generalize w.alloc (.cells #[.int .i64 i.ns, .int .i64 i.nr, .string i.body] 25) = X at *
  go_wp2_with fail
  refine (H1.out.out _ K0.out).mono ?_
  rintro e w1 ⟨rfl, hq⟩
  rw [hq]
  clear hq w1 H1
  go_wp2
  go_returns
  exact ⟨rfl, K0.out⟩
end Go.Proofs.Ytoflohomnoppnaa
