/- The law NetNone: it returns true for every number and datagram, and leaves what was there. -/
import Derived.Test.YtoejfbfecfpbeaaAlive4
import Derived.Test.YtoejfbfecfpbeaaNetOps2
namespace Go.Proofs.Ytoejfbfecfpbeaa
open Go.RowKit

theorem cut_nil (k i : Int) (on : Bool) (w : World) : Calls Try.prog 21 #[.pointer none, .agg #[.int .i64 k, .int .i64 i], .bool on] w fun e w' => e = .returned (.tuple #[]) ∧ Kept (fun _ => False) w w' := by
  go_enter Try.func21, Try.ntmps21
  go_wp2
  (try simp only [Exit.inBlock, Exit.then])
  refine bodyPost_ret (results_none rfl _ _ _) rfl ?_
  exact ⟨rfl, (Kept.refl _ w).alloc _⟩

set_option maxHeartbeats 1000000 in
set_option maxRecDepth 100000 in
theorem netNone_walk (i f t : Int) (x : ByteArray) (w : World) (_hi : In64 i) (_hf : In64 f) (_ht : In64 t) :
    Calls Try.prog 4 #[.int .i64 i, .agg #[.int .i64 f, .int .i64 t, .string x]] w fun e w' => e = .returned (.bool true) ∧ Below w.heap.size w w' := by
  have h1 : (1 : Int) ≠ 0 := by decide
  have Hp := hid (fun W => place_nil i W)
  have HD := hid (fun W => deliver_no (w := W) (.pointer none) i 1 h1 (fun W _ => place_nil i W))
  have HP := hid (fun W => peek_no (w := W) (.pointer none) i 1 h1 (fun W _ => place_nil i W))
  have HR := hid (fun W => drop_no (w := W) (.pointer none) i 1 h1 (place_nil i W))
  have HT := hid (fun W => twice_no (w := W) (.pointer none) i 1 h1 (place_nil i W))
  have HS := hid (fun W => spoil_no (w := W) (.pointer none) i 1 0 1 h1 (place_nil i W))
  have HN := hid (fun W => send_nil f t x W)
  have HA := hid alive_any
  unfold ansV g0 at HD HP
  have HC := hid (fun W => cut_nil 0 0 true W)
  have HL := hid (fun W => len_nil W)
  have HSe := hid (fun W => sent_nil 0 0 W)
  have HLo := hid (fun W => lost_nil 0 0 W)
  unfold keyV at HSe HLo
  have Hbox : Hid (∀ W, Kept (fun _ => False) (w.alloc (.cells #[.int .i64 f, .int .i64 t, .string x] 39)) W → W.cell? ⟨w.heap.size, 0, none⟩ = some (.int .i64 f) ∧ W.cell? ⟨w.heap.size, 1, none⟩ = some (.int .i64 t) ∧ W.cell? ⟨w.heap.size, 2, none⟩ = some (.string x)) := fun W h =>
    ⟨(h.cell (p := ⟨w.heap.size, 0, none⟩) (by simp) id).trans (by simp), (h.cell (p := ⟨w.heap.size, 1, none⟩) (by simp) id).trans (by simp), (h.cell (p := ⟨w.heap.size, 2, none⟩) (by simp) id).trans (by simp)⟩
  clear h1 Hp
  go_enter Try.func4, Try.ntmps4
  go_wp2_with fail
  refine (HD.out _).mono ?_
  rintro e w1 ⟨rfl, hk1⟩
  have HK1 := hid hk1
  clear hk1 HD
  go_wp2_with fail
  refine (HP.out _).mono ?_
  rintro e w2 ⟨rfl, hk2⟩
  have HK2 := hid ((HK1.out.alloc _).trans hk2)
  clear hk2 HK1 HP
  go_wp2_with fail
  refine (HC.out _).mono ?_
  rintro e w3 ⟨rfl, hk3⟩
  have HK3 := hid ((HK2.out.alloc _).trans hk3)
  clear hk3 HK2 HC
  go_wp2_with fail
  refine (HA.out _).mono ?_
  rintro e w4 ⟨rfl, hk4⟩
  have HK4 := hid (HK3.out.trans hk4)
  obtain ⟨b0, b1, b2⟩ := Hbox.out _ HK4.out
  clear hk4 HK3 HA Hbox
  go_wp2_with fail
  refine (HN.out _).mono ?_
  rintro e w5 ⟨rfl, hk5⟩
  have HK5 := hid (HK4.out.trans hk5)
  clear hk5 HK4 HN b0 b1 b2
  go_wp2_with fail
  refine (HR.out _).mono ?_
  rintro e w' ⟨rfl, rfl⟩
  go_wp2_with fail
  refine (HT.out _).mono ?_
  rintro e w' ⟨rfl, rfl⟩
  go_wp2_with fail
  refine (HS.out _).mono ?_
  rintro e w' ⟨rfl, rfl⟩
  go_wp2_with fail
  refine (HL.out _).mono ?_
  rintro e w' ⟨rfl, rfl⟩
  go_wp2_with fail
  refine (HSe.out _).mono ?_
  rintro e w6 ⟨rfl, hk6⟩
  have HK6 := hid (HK5.out.trans hk6)
  clear hk6 HK5
  go_wp2_with fail
  refine (HLo.out _).mono ?_
  rintro e w7 ⟨rfl, hk7⟩
  have HK7 := hid (((Kept.refl _ w).alloc _).trans (HK6.out.trans hk7))
  clear hk7 HK6
  go_wp2
  go_ret
  exact ⟨rfl, HK7.out.below (Nat.le_refl _) (fun _ h => h.elim)⟩

end Go.Proofs.Ytoejfbfecfpbeaa
