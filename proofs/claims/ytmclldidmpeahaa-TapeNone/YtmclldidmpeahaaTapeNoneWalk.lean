/- The law TapeNone: it returns true for every key and number, and leaves what was there. -/
import Derived.Test.YtmclldidmpeahaaAlive3
import Derived.Test.YtmclldidmpeahaaCancel
namespace Go.Proofs.Ytmclldidmpeahaa
open Go.RowKit

set_option maxHeartbeats 2000000 in
set_option maxRecDepth 100000 in
theorem tapeNone_walk (k i n : Int) (w : World) (_hk : In64 k) (_hi : In64 i) (_hn : In64 n) :
    Calls Try.prog 4 #[.agg #[.int .i64 k, .int .i64 i], .int .i64 n] w fun e w' => e = .returned (.bool true) ∧ Below w.heap.size w w' := by
  have Hw := hid (fun W => when_nil k i W)
  have Hs := hid (fun W => set_nil k i n W)
  have Hc := hid (fun W => cancel_nil k i W)
  unfold keyV at Hw Hs Hc
  have hb0 : (w.alloc (.cells #[.int .i64 k, .int .i64 i] 38)).cell? ⟨w.heap.size, 0, none⟩ = some (.int .i64 k) := by simp
  have hb1 : (w.alloc (.cells #[.int .i64 k, .int .i64 i] 38)).cell? ⟨w.heap.size, 1, none⟩ = some (.int .i64 i) := by simp
  have hz : w.heap.size < (w.alloc (.cells #[.int .i64 k, .int .i64 i] 38)).heap.size := by simp
  have hbox : ∀ W, Kept (fun _ => False) (w.alloc (.cells #[.int .i64 k, .int .i64 i] 38)) W → W.cell? ⟨w.heap.size, 0, none⟩ = some (.int .i64 k) ∧ W.cell? ⟨w.heap.size, 1, none⟩ = some (.int .i64 i) := fun W hW =>
    ⟨(hW.cell (p := ⟨w.heap.size, 0, none⟩) hz id).trans hb0, (hW.cell (p := ⟨w.heap.size, 1, none⟩) hz id).trans hb1⟩
  have Hbox := hid hbox
  clear hbox hb0 hb1 hz
  have Hk0 := hid ((Kept.refl (fun _ => False) w).alloc (.cells #[.int .i64 k, .int .i64 i] 38))
  go_enter Try.func4, Try.ntmps4
  go_wp2_with fail
  refine (Hw.out _).mono ?_
  rintro e w1 ⟨rfl, hk1⟩
  obtain ⟨q0, q1⟩ := Hbox.out w1 hk1
  have K1 := hid hk1
  clear hk1
  go_wp2_with fail
  refine (alive_any _).mono ?_
  rintro e w2 ⟨rfl, hk2⟩
  clear q0 q1
  have K2 := hid (K1.out.trans hk2)
  obtain ⟨q0, q1⟩ := Hbox.out w2 K2.out
  clear hk2
  go_wp2_with fail
  refine (Hs.out _).mono ?_
  rintro e w3 ⟨rfl, hk3⟩
  clear q0 q1
  have K3 := hid (K2.out.trans hk3)
  obtain ⟨q0, q1⟩ := Hbox.out w3 K3.out
  clear hk3
  go_wp2_with fail
  refine (Hc.out _).mono ?_
  rintro e w4 ⟨rfl, hk4⟩
  have K4 := hid (K3.out.trans hk4)
  clear q0 q1 hk4
  go_wp2_with (first
    | (go_at_call 20; refine (tick_nil _ _).mono ?_; rintro e w' ⟨rfl, rfl⟩)
    | (go_at_call 21; refine (len_nil _).mono ?_; rintro e w' ⟨rfl, rfl⟩)
    | (go_at_call 22; refine (now_nil _).mono ?_; rintro e w' ⟨rfl, rfl⟩))
  go_ret
  exact ⟨rfl, (Hk0.out.trans K4.out).below (Nat.le_refl _) (fun _ h => h.elim)⟩
end Go.Proofs.Ytmclldidmpeahaa
