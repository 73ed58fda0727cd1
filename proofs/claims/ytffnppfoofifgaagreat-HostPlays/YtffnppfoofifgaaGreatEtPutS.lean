/- The contract of ether.Session: a session's frame, or the error. -/
import Derived.Test.YtffnppfoofifgaaGreatEtFrame
namespace Go.Proofs.YtffnppfoofifgaaGreat
open Go.RowKit

/-- A frame's fourteen cells. -/
theorem et_form {to src : List UInt8} (hto : to.length = 6) (hsrc : src.length = 6) (kind code session : Int) (D : List UInt8) : ∃ y0 y1 y2 y3 y4 y5 x0 x1 x2 x3 x4 x5 : Int, ∃ k : Int, ∃ d : ByteArray, frV (etFrame to src kind code session D).1 = .agg #[.int .u8 y0, .int .u8 y1, .int .u8 y2, .int .u8 y3, .int .u8 y4, .int .u8 y5, .int .u8 x0, .int .u8 x1, .int .u8 x2, .int .u8 x3, .int .u8 x4, .int .u8 x5, .int .i64 k, .string d] := by
  unfold etFrame frV
  split
  · obtain ⟨y0, y1, y2, y3, y4, y5, hy⟩ := six_cells hto
    obtain ⟨x0, x1, x2, x3, x4, x5, hx⟩ := six_cells hsrc
    exact ⟨y0, y1, y2, y3, y4, y5, x0, x1, x2, x3, x4, x5, _, _, by simp only [frList]; rw [hx, hy]; rfl⟩
  · exact ⟨0, 0, 0, 0, 0, 0, 0, 0, 0, 0, 0, 0, _, _, rfl⟩

set_option maxHeartbeats 4000000 in
set_option maxRecDepth 100000 in
theorem session_any (to src : List UInt8) (hto : to.length = 6) (hsrc : src.length = 6) (n : Int) (data : ByteArray) (hd : data.size ≤ 140737488351232) (w : World) :
    Calls Tryz.prog 33 #[.agg (Lib.byteCells to).toArray, .agg (Lib.byteCells src).toArray, .int .i64 n, .string data] w
      fun e w' => e = .returned (.tuple #[frV (etFrame to src 34916 0 n data.data.toList).1, .int .i64 (etFrame to src 34916 0 n data.data.toList).2]) ∧ Kept (fun _ => False) w w' := by
  have HF := hid (fun W => frame_any to src hto hsrc 34916 0 n data hd W)
  obtain ⟨y0, y1, y2, y3, y4, y5, x0, x1, x2, x3, x4, x5, k, d, hform⟩ := et_form hto hsrc 34916 0 n data.data.toList
  obtain ⟨z0, z1, z2, z3, z4, z5, hz⟩ := six_cells hto
  obtain ⟨t0, t1, t2, t3, t4, t5, ht⟩ := six_cells hsrc
  rw [hform]
  rw [hform] at HF
  rw [hz, ht]
  rw [hz, ht] at HF
  generalize (etFrame to src 34916 0 n data.data.toList).2 = E at *
  clear hform hd hz ht
  have O0 := hid (own14_new ((w.alloc (.cells #[.int .u8 z0, .int .u8 z1, .int .u8 z2, .int .u8 z3, .int .u8 z4, .int .u8 z5] 23)).alloc (.cells #[.int .u8 t0, .int .u8 t1, .int .u8 t2, .int .u8 t3, .int .u8 t4, .int .u8 t5] 23)) Z14)
  have B0 := hid ((box6_new w 23 (.int .u8 z0) (.int .u8 z1) (.int .u8 z2) (.int .u8 z3) (.int .u8 z4) (.int .u8 z5)).kept (((Kept.refl (fun _ => False) _).alloc (.cells #[.int .u8 t0, .int .u8 t1, .int .u8 t2, .int .u8 t3, .int .u8 t4, .int .u8 t5] 23)).alloc (.cells Z14 55)))
  have B1 := hid ((box6_new (w.alloc (.cells #[.int .u8 z0, .int .u8 z1, .int .u8 z2, .int .u8 z3, .int .u8 z4, .int .u8 z5] 23)) 23 (.int .u8 t0) (.int .u8 t1) (.int .u8 t2) (.int .u8 t3) (.int .u8 t4) (.int .u8 t5)).kept ((Kept.refl (fun _ => False) _).alloc (.cells Z14 55)))
  have K0 := hid ((((Kept.refl (fun _ => False) w).alloc (.cells #[.int .u8 z0, .int .u8 z1, .int .u8 z2, .int .u8 z3, .int .u8 z4, .int .u8 z5] 23)).alloc (.cells #[.int .u8 t0, .int .u8 t1, .int .u8 t2, .int .u8 t3, .int .u8 t4, .int .u8 t5] 23)).alloc (.cells Z14 55))
  rw [show (w.alloc (.cells #[.int .u8 z0, .int .u8 z1, .int .u8 z2, .int .u8 z3, .int .u8 z4, .int .u8 z5] 23)).heap.size = w.heap.size + 1 from by simp] at B1
  obtain ⟨b0, b1, b2, b3, b4, b5⟩ := B0.out
  obtain ⟨f0, f1, f2, f3, f4, f5⟩ := B1.out
  unfold Z14 at b0 b1 b2 b3 b4 b5 f0 f1 f2 f3 f4 f5 O0 K0
  clear B0 B1
  go_enter Tryz.func33, Tryz.ntmps33
  go_wp2_with fail
  refine (HF.out _).mono ?_
  rintro e w1 ⟨rfl, hk1⟩
  have O1 := O0.out.kept hk1
  have K1 := hid (K0.out.trans hk1)
  have hc := fun j => cell_of_row w1 (w.heap.size + 1 + 1) j _ _ _ (by simpa [Own14] using O1)
  have hf := fun j => frozen_of_row w1 (w.heap.size + 1 + 1) j _ _ (by simpa [Own14] using O1)
  have c0 := hc 0
  have c1 := hc 1
  have c2 := hc 2
  have c3 := hc 3
  have c4 := hc 4
  have c5 := hc 5
  have c6 := hc 6
  have c7 := hc 7
  have c8 := hc 8
  have c9 := hc 9
  have c10 := hc 10
  have c11 := hc 11
  have c12 := hc 12
  have c13 := hc 13
  clear hk1 O1 O0 K0 hc b0 b1 b2 b3 b4 b5 f0 f1 f2 f3 f4 f5
  simp only [List.getElem?_toArray, List.getElem?_cons_zero, List.getElem?_cons_succ] at c0 c1 c2 c3 c4 c5 c6 c7 c8 c9 c10 c11 c12 c13
  go_wp2
  refine bodyPost_ret (v := .tuple #[.agg #[.int .u8 y0, .int .u8 y1, .int .u8 y2, .int .u8 y3, .int .u8 y4, .int .u8 y5, .int .u8 x0, .int .u8 x1, .int .u8 x2, .int .u8 x3, .int .u8 x4, .int .u8 x5, .int .i64 k, .string d], .int .i64 E]) (by simp [results, Tryz.results33, go_sem, c0, c1, c2, c3, c4, c5, c6, c7, c8, c9, c10, c11, c12, c13]) rfl ⟨rfl, ?_⟩
  repeat (refine Kept.setCell ?_ (Or.inl (by simp only []; omega)) _)
  exact K1.out
end Go.Proofs.YtffnppfoofifgaaGreat
