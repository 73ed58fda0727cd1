/- Of no negotiation: nil, or a zero one. -/
import Derived.Test.YtodgkmjiiijfpaaNgAlive
import Derived.Test.YtodgkmjiiijfpaaOpLight
namespace Go.Proofs.Ytodgkmjiiijfpaa
open Go.RowKit

/-- v is none, in every world that comes of w. -/
structure IsNone (w : World) (v : Value) : Prop where
  out : ∀ W, Kept (fun _ => False) w W → Calls Try.prog 27 #[v] W fun e w' => e = .returned (.bool true) ∧ w' = W
theorem IsNone.kept {w w' : World} {v : Value} (h : IsNone w v) (hk : Kept (fun _ => False) w w') : IsNone w' v := ⟨fun W k => h.out W (hk.trans k)⟩
theorem isNone_nilN (w : World) : IsNone w (.pointer none) := ⟨fun W _ => ngNone_nil W⟩
theorem isNone_zeroN {w : World} {b : Nat} (h : w.cell? ⟨b, 0, none⟩ = some (.pointer none)) : IsNone w (.pointer (some ⟨b, 0, none⟩)) := ⟨fun W k => ngNone_zero b W ((k.cell (p := ⟨b, 0, none⟩) (lt_of_cell h) id).trans h)⟩
/-- What a law of none stands upon, in a world that has come of A: both are none; the packet lies in its box. -/
structure NoneS (A : World) (zb pb : Nat) (c i : Int) (v : Value) (x : ByteArray) (W : World) : Prop where
  k : Kept (fun _ => False) A W
  nil : IsNone W (.pointer none)
  zero : IsNone W (.pointer (some ⟨zb, 0, none⟩))
  p0 : W.cell? ⟨pb, 0, none⟩ = some (.int .i64 c)
  p1 : W.cell? ⟨pb, 1, none⟩ = some (.int .i64 i)
  p2 : W.cell? ⟨pb, 2, none⟩ = some v
  p3 : W.cell? ⟨pb, 3, none⟩ = some (.string x)
theorem NoneS.kept {A W W' : World} {zb pb : Nat} {c i : Int} {v : Value} {x : ByteArray} (h : NoneS A zb pb c i v x W) (hk : Kept (fun _ => False) W W') : NoneS A zb pb c i v x W' := by
  have hlt : pb < W.heap.size := lt_of_cell h.p0
  have e : ∀ j, W'.cell? ⟨pb, j, none⟩ = W.cell? ⟨pb, j, none⟩ := fun j => hk.cell (p := ⟨pb, j, none⟩) hlt id
  exact ⟨h.k.trans hk, h.nil.kept hk, h.zero.kept hk, (e 0).trans h.p0, (e 1).trans h.p1, (e 2).trans h.p2, (e 3).trans h.p3⟩

set_option maxHeartbeats 1000000 in
set_option maxRecDepth 100000 in
theorem none_ups (v : Value) (w : World) (h : IsNone w v) : Calls Try.prog 10 #[v] w fun e w' => e = .returned (.tuple #[.int .i64 0, .int .i64 0]) ∧ Kept (fun _ => False) w w' := by
  have HN := hid h
  have k0 := Kept.refl (fun _ => False) w
  clear h
  go_enter Try.func10, Try.ntmps10
  go_wp2_with (first | (go_at_call 27; refine (HN.out.out _ (by assumption)).mono ?_; rintro e w' ⟨rfl, hw⟩; rw [hw]; clear hw w'))
  go_ret2
  exact ⟨rfl, by assumption⟩

set_option maxHeartbeats 1000000 in
set_option maxRecDepth 100000 in
theorem none_do (v : Value) (e : Int) (w : World) (h : IsNone w v) : Calls Try.prog 11 #[v, .int .i64 e] w fun e w' => e = .returned (.slice none 0 0) ∧ Kept (fun _ => False) w w' := by
  have HN := hid h
  have k0 := Kept.refl (fun _ => False) w
  clear h
  go_enter Try.func11, Try.ntmps11
  go_wp2_with (first | (go_at_call 27; refine (HN.out.out _ (by assumption)).mono ?_; rintro e w' ⟨rfl, hw⟩; rw [hw]; clear hw w'))
  go_ret
  exact ⟨rfl, by assumption⟩

set_option maxHeartbeats 1000000 in
set_option maxRecDepth 100000 in
theorem none_tick (v : Value) (w : World) (h : IsNone w v) : Calls Try.prog 13 #[v] w fun e w' => e = .returned (.slice none 0 0) ∧ Kept (fun _ => False) w w' := by
  have HN := hid h
  have k0 := Kept.refl (fun _ => False) w
  clear h
  go_enter Try.func13, Try.ntmps13
  go_wp2_with (first | (go_at_call 27; refine (HN.out.out _ (by assumption)).mono ?_; rintro e w' ⟨rfl, hw⟩; rw [hw]; clear hw w'))
  go_ret
  exact ⟨rfl, by assumption⟩

set_option maxHeartbeats 1000000 in
set_option maxRecDepth 100000 in
theorem none_state (v : Value) (w : World) (h : IsNone w v) : Calls Try.prog 14 #[v] w fun e w' => e = .returned (.int .i64 0) ∧ Kept (fun _ => False) w w' := by
  have HN := hid h
  have k0 := Kept.refl (fun _ => False) w
  clear h
  go_enter Try.func14, Try.ntmps14
  go_wp2_with (first | (go_at_call 27; refine (HN.out.out _ (by assumption)).mono ?_; rintro e w' ⟨rfl, hw⟩; rw [hw]; clear hw w'))
  go_ret
  exact ⟨rfl, by assumption⟩

set_option maxHeartbeats 1000000 in
set_option maxRecDepth 100000 in
theorem none_take (v : Value) (c i : Int) (p : Option Addr) (m cap : Nat) (s : ByteArray) (w : World) (h : IsNone w v) : Calls Try.prog 12 #[v, .agg #[.int .i64 c, .int .i64 i, .slice p m cap, .string s]] w fun e w' => e = .returned (.slice none 0 0) ∧ Kept (fun _ => False) w w' := by
  have HN := hid h
  have k0 := Kept.refl (fun _ => False) w
  have k1 := k0.alloc (.cells #[.int .i64 c, .int .i64 i, .slice p m cap, .string s] 24)
  clear h
  go_enter Try.func12, Try.ntmps12
  go_wp2_with (first | (go_at_call 27; refine (HN.out.out _ (by assumption)).mono ?_; rintro e w' ⟨rfl, hw⟩; rw [hw]; clear hw w'))
  go_ret
  exact ⟨rfl, by assumption⟩

set_option maxHeartbeats 1000000 in
set_option maxRecDepth 100000 in
theorem none_mine (v : Value) (w : World) (h : IsNone w v) : Calls Try.prog 15 #[v] w fun e w' => e = .returned (.slice none 0 0) ∧ Kept (fun _ => False) w w' := by
  have HN := hid h
  have k0 := Kept.refl (fun _ => False) w
  have HS := hid (none_state v w h)
  clear h
  go_enter Try.func15, Try.ntmps15
  go_wp2_with (first | (go_at_call 27; refine (HN.out.out _ (by assumption)).mono ?_; rintro e w' ⟨rfl, hw⟩; rw [hw]; clear hw w') | (go_at_call 14; refine HS.out.mono ?_; rintro e w1 ⟨rfl, k1⟩))
  go_ret
  exact ⟨rfl, by assumption⟩

set_option maxHeartbeats 1000000 in
set_option maxRecDepth 100000 in
theorem none_theirs (v : Value) (w : World) (h : IsNone w v) : Calls Try.prog 16 #[v] w fun e w' => e = .returned (.slice none 0 0) ∧ Kept (fun _ => False) w w' := by
  have HN := hid h
  have k0 := Kept.refl (fun _ => False) w
  have HS := hid (none_state v w h)
  clear h
  go_enter Try.func16, Try.ntmps16
  go_wp2_with (first | (go_at_call 27; refine (HN.out.out _ (by assumption)).mono ?_; rintro e w' ⟨rfl, hw⟩; rw [hw]; clear hw w') | (go_at_call 14; refine HS.out.mono ?_; rintro e w1 ⟨rfl, k1⟩))
  go_ret
  exact ⟨rfl, by assumption⟩

set_option maxHeartbeats 1000000 in
set_option maxRecDepth 100000 in
theorem none_adopt (v : Value) (x y : Value) (w : World) (h : IsNone w v) : Calls Try.prog 17 #[v, x, y] w fun e w' => e = .returned (.int .i64 1) ∧ Kept (fun _ => False) w w' := by
  have HN := hid h
  have k0 := Kept.refl (fun _ => False) w
  clear h
  go_enter Try.func17, Try.ntmps17
  go_wp2_with (first | (go_at_call 27; refine (HN.out.out _ (by assumption)).mono ?_; rintro e w' ⟨rfl, hw⟩; rw [hw]; clear hw w'))
  go_ret
  exact ⟨rfl, by assumption⟩

end Go.Proofs.Ytodgkmjiiijfpaa
