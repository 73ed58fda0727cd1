/- The contract of ether's inner frame: the frame of a packet, or the error. -/
import Derived.Test.YtffnppfoofifgaaGreatEtKit
namespace Go.Proofs.YtffnppfoofifgaaGreat
open Go.RowKit

set_option maxHeartbeats 1000000 in
set_option maxRecDepth 100000 in
theorem frame_no (to src : List UInt8) (hto : to.length = 6) (hsrc : src.length = 6) (kind code session : Int) (data : ByteArray) (hd : data.size ≤ 140737488351232) (he : (putDiscF code session data.data.toList).2 ≠ 0) (w : World) :
    Calls Tryz.prog 119 #[.agg (Lib.byteCells to).toArray, .agg (Lib.byteCells src).toArray, .int .i64 kind, .agg #[.int .i64 code, .int .i64 session, .string data]] w
      fun e w' => e = .returned (.tuple #[.agg Z14, .int .i64 (putDiscF code session data.data.toList).2]) ∧ Kept (fun _ => False) w w' := by
  obtain ⟨y0, y1, y2, y3, y4, y5, hy⟩ := six_cells hto
  obtain ⟨x0, x1, x2, x3, x4, x5, hx⟩ := six_cells hsrc
  have HP := hid (fun W => putDisc_any code session data hd W)
  rw [hy, hx]
  have hne : ((putDiscF code session data.data.toList).2 != 0) = true := by simpa using he
  generalize (putDiscF code session data.data.toList).2 = E at *
  generalize (putDiscF code session data.data.toList).1 = D at *
  clear he hd
  have O0 := hid (own14_new (((w.alloc (.cells #[.int .u8 y0, .int .u8 y1, .int .u8 y2, .int .u8 y3, .int .u8 y4, .int .u8 y5] 23)).alloc (.cells #[.int .u8 x0, .int .u8 x1, .int .u8 x2, .int .u8 x3, .int .u8 x4, .int .u8 x5] 23)).alloc (.cells #[.int .i64 code, .int .i64 session, .string data] 82)) Z14)
  have K0 := hid (((((Kept.refl (fun _ => False) w).alloc (.cells #[.int .u8 y0, .int .u8 y1, .int .u8 y2, .int .u8 y3, .int .u8 y4, .int .u8 y5] 23)).alloc (.cells #[.int .u8 x0, .int .u8 x1, .int .u8 x2, .int .u8 x3, .int .u8 x4, .int .u8 x5] 23)).alloc (.cells #[.int .i64 code, .int .i64 session, .string data] 82)).alloc (.cells Z14 55))
  go_enter Tryz.func119, Tryz.ntmps119
  go_wp2_with fail
  refine (HP.out _).mono ?_
  rintro e w1 ⟨rfl, hb1⟩
  have O1 := O0.out.kept (kept_of hb1)
  have hc := fun j => cell_of_row w1 (w.heap.size + 1 + 1 + 1) j _ _ _ (by simpa [Own14] using O1)
  have hf := fun j => frozen_of_row w1 (w.heap.size + 1 + 1 + 1) j _ _ (by simpa [Own14] using O1)
  have K1 := hid (K0.out.trans (kept_of hb1))
  have c0 := hc 0
  have c1 := hc 1
  have c2 := hc 2
  have c3 := hc 3
  have c4 := hc 4
  have c5 := hc 5
  have c6 := hc 6
  have c7 := hc 7
  have c8 := hc 8
  have c9 := hc 9
  have c10 := hc 10
  have c11 := hc 11
  have c12 := hc 12
  have c13 := hc 13
  clear hb1 O1 O0 K0 hc
  simp only [List.getElem?_toArray, List.getElem?_cons_zero, List.getElem?_cons_succ] at c0 c1 c2 c3 c4 c5 c6 c7 c8 c9 c10 c11 c12 c13
  go_wp2
  refine bodyPost_ret (v := .tuple #[.agg Z14, .int .i64 E]) (by simp [results, Tryz.results119, go_sem, c0, c1, c2, c3, c4, c5, c6, c7, c8, c9, c10, c11, c12, c13]) rfl ⟨rfl, ?_⟩
  repeat (refine Kept.setCell ?_ (Or.inl (by simp only []; omega)) _)
  exact K1.out

set_option maxHeartbeats 4000000 in
set_option maxRecDepth 100000 in
theorem frame_yes (to src : List UInt8) (hto : to.length = 6) (hsrc : src.length = 6) (kind code session : Int) (data : ByteArray) (hd : data.size ≤ 140737488351232) (he : (putDiscF code session data.data.toList).2 = 0) (w : World) :
    Calls Tryz.prog 119 #[.agg (Lib.byteCells to).toArray, .agg (Lib.byteCells src).toArray, .int .i64 kind, .agg #[.int .i64 code, .int .i64 session, .string data]] w
      fun e w' => e = .returned (.tuple #[frV ⟨to, src, kind, ⟨(putDiscF code session data.data.toList).1.toArray⟩⟩, .int .i64 0]) ∧ Kept (fun _ => False) w w' := by
  obtain ⟨y0, y1, y2, y3, y4, y5, hy⟩ := six_cells hto
  obtain ⟨x0, x1, x2, x3, x4, x5, hx⟩ := six_cells hsrc
  have HP := hid (fun W => putDisc_any code session data hd W)
  unfold frV frList
  simp only []
  rw [hx, hy]
  rw [he] at HP
  generalize (putDiscF code session data.data.toList).1 = D at *
  clear he hd
  have O0 := hid (own14_new (((w.alloc (.cells #[.int .u8 y0, .int .u8 y1, .int .u8 y2, .int .u8 y3, .int .u8 y4, .int .u8 y5] 23)).alloc (.cells #[.int .u8 x0, .int .u8 x1, .int .u8 x2, .int .u8 x3, .int .u8 x4, .int .u8 x5] 23)).alloc (.cells #[.int .i64 code, .int .i64 session, .string data] 82)) Z14)
  have B0 := hid (((box6_new w 23 (.int .u8 y0) (.int .u8 y1) (.int .u8 y2) (.int .u8 y3) (.int .u8 y4) (.int .u8 y5)).kept (((Kept.refl (fun _ => False) _).alloc (.cells #[.int .u8 x0, .int .u8 x1, .int .u8 x2, .int .u8 x3, .int .u8 x4, .int .u8 x5] 23)).alloc (.cells #[.int .i64 code, .int .i64 session, .string data] 82))).kept ((Kept.refl (fun _ => False) _).alloc (.cells Z14 55)))
  have B1 := hid (((box6_new (w.alloc (.cells #[.int .u8 y0, .int .u8 y1, .int .u8 y2, .int .u8 y3, .int .u8 y4, .int .u8 y5] 23)) 23 (.int .u8 x0) (.int .u8 x1) (.int .u8 x2) (.int .u8 x3) (.int .u8 x4) (.int .u8 x5)).kept ((Kept.refl (fun _ => False) _).alloc (.cells #[.int .i64 code, .int .i64 session, .string data] 82))).kept ((Kept.refl (fun _ => False) _).alloc (.cells Z14 55)))
  have K0 := hid (((((Kept.refl (fun _ => False) w).alloc (.cells #[.int .u8 y0, .int .u8 y1, .int .u8 y2, .int .u8 y3, .int .u8 y4, .int .u8 y5] 23)).alloc (.cells #[.int .u8 x0, .int .u8 x1, .int .u8 x2, .int .u8 x3, .int .u8 x4, .int .u8 x5] 23)).alloc (.cells #[.int .i64 code, .int .i64 session, .string data] 82)).alloc (.cells Z14 55))
  rw [show (w.alloc (.cells #[.int .u8 y0, .int .u8 y1, .int .u8 y2, .int .u8 y3, .int .u8 y4, .int .u8 y5] 23)).heap.size = w.heap.size + 1 from by simp] at B1
  go_enter Tryz.func119, Tryz.ntmps119
  go_wp2_with fail
  refine (HP.out _).mono ?_
  rintro e w1 ⟨rfl, hb1⟩
  have O1 := O0.out.kept (kept_of hb1)
  have K1 := hid (K0.out.trans (kept_of hb1))
  obtain ⟨d0, d1, d2, d3, d4, d5⟩ := B0.out.kept (kept_of hb1)
  obtain ⟨e0, e1, e2, e3, e4, e5⟩ := B1.out.kept (kept_of hb1)
  have hc := fun j => cell_of_row w1 (w.heap.size + 1 + 1 + 1) j _ _ _ (by simpa [Own14] using O1)
  have hf := fun j => frozen_of_row w1 (w.heap.size + 1 + 1 + 1) j _ _ (by simpa [Own14] using O1)
  have c0 := hc 0
  have c1 := hc 1
  have c2 := hc 2
  have c3 := hc 3
  have c4 := hc 4
  have c5 := hc 5
  have c6 := hc 6
  have c7 := hc 7
  have c8 := hc 8
  have c9 := hc 9
  have c10 := hc 10
  have c11 := hc 11
  have c12 := hc 12
  have c13 := hc 13
  clear hb1 O1 O0 K0 B0 B1 HP hc
  simp only [List.getElem?_toArray, List.getElem?_cons_zero, List.getElem?_cons_succ] at c0 c1 c2 c3 c4 c5 c6 c7 c8 c9 c10 c11 c12 c13
  go_wp2
  refine bodyPost_ret (v := .tuple #[.agg #[.int .u8 y0, .int .u8 y1, .int .u8 y2, .int .u8 y3, .int .u8 y4, .int .u8 y5, .int .u8 x0, .int .u8 x1, .int .u8 x2, .int .u8 x3, .int .u8 x4, .int .u8 x5, .int .i64 kind, .string ⟨D.toArray⟩], .int .i64 0]) (by simp [results, Tryz.results119, go_sem, c0, c1, c2, c3, c4, c5, c6, c7, c8, c9, c10, c11, c12, c13]) rfl ⟨rfl, ?_⟩
  repeat (refine Kept.setCell ?_ (Or.inl (by simp only []; omega)) _)
  exact K1.out

/-- 'frame(to, from, kind, d)'. -/
theorem frame_any (to src : List UInt8) (hto : to.length = 6) (hsrc : src.length = 6) (kind code session : Int) (data : ByteArray) (hd : data.size ≤ 140737488351232) (w : World) :
    Calls Tryz.prog 119 #[.agg (Lib.byteCells to).toArray, .agg (Lib.byteCells src).toArray, .int .i64 kind, .agg #[.int .i64 code, .int .i64 session, .string data]] w
      fun e w' => e = .returned (.tuple #[frV (etFrame to src kind code session data.data.toList).1, .int .i64 (etFrame to src kind code session data.data.toList).2]) ∧ Kept (fun _ => False) w w' := by
  unfold etFrame
  by_cases he : (putDiscF code session data.data.toList).2 = 0
  · rw [if_pos he]
    exact frame_yes to src hto hsrc kind code session data hd he w
  · rw [if_neg he, frV_zero]
    exact frame_no to src hto hsrc kind code session data hd he w
end Go.Proofs.YtffnppfoofifgaaGreat
