/- The contract of the document's host: Data. (Written by gen_hrdata.py.) -/
import Derived.Test.YtffnppfoofifgaaGreatTk
import Derived.Test.YtffnppfoofifgaaGreatHrUp
import Derived.Test.YtffnppfoofifgaaGreatEtEq
namespace Go.Proofs.YtffnppfoofifgaaGreat
open Go.RowKit

set_option maxHeartbeats 4000000 in
set_option maxRecDepth 100000 in
theorem rData_state (b : Nat) (h : Hd) (hg : GoodD h) (dst src : List UInt8) (hdst : dst.length = 6) (hsrc : src.length = 6) (ty : Int) (x : ByteArray) (_hsz : x.size ≤ 1000000) (w : World) (H : HdIn w b h) (hst : ¬ h.state = 3) :
    Calls Tryz.prog 14 #[.pointer (some ⟨b, 0, none⟩), frV ⟨dst, src, ty, x⟩] w fun e w' => e = .returned (.tuple #[.string ⟨#[]⟩, .bool false]) ∧ Kept (fun _ => False) w w' := by
  obtain ⟨x0, x1, x2, x3, x4, x5, hx⟩ := six_cells hg.mac
  obtain ⟨y0, y1, y2, y3, y4, y5, hy⟩ := six_cells hg.ac
  obtain ⟨d0, d1, d2, d3, d4, d5, hd⟩ := six_cells hdst
  obtain ⟨s0, s1, s2, s3, s4, s5, hs⟩ := six_cells hsrc
  have hfv : frV ⟨dst, src, ty, x⟩ = .agg #[.int .u8 d0, .int .u8 d1, .int .u8 d2, .int .u8 d3, .int .u8 d4, .int .u8 d5, .int .u8 s0, .int .u8 s1, .int .u8 s2, .int .u8 s3, .int .u8 s4, .int .u8 s5, .int .i64 ty, .string x] := by unfold frV frList; simp only []; rw [hd, hs]; rfl
  rw [hfv]
  have hE := mac_eq dst h.mac hdst hg.mac
  rw [hd, hx] at hE
  have hE3 := mac_eq src h.ac hsrc hg.ac
  rw [hs, hy] at hE3
  obtain ⟨w1, hw1⟩ : ∃ w1, w1 = w.alloc (.cells #[.int .u8 d0, .int .u8 d1, .int .u8 d2, .int .u8 d3, .int .u8 d4, .int .u8 d5, .int .u8 s0, .int .u8 s1, .int .u8 s2, .int .u8 s3, .int .u8 s4, .int .u8 s5, .int .i64 ty, .string x] 55) := ⟨_, rfl⟩
  have Hw1 := hid hw1
  have K1 : Hid (Kept (fun _ => False) w w1) := by rw [hw1]; exact (Kept.refl _ w).alloc _
  obtain ⟨fb, hfb⟩ : ∃ fb, fb = w.heap.size := ⟨_, rfl⟩
  have O1 : Hid (Own14 w1 fb #[.int .u8 d0, .int .u8 d1, .int .u8 d2, .int .u8 d3, .int .u8 d4, .int .u8 d5, .int .u8 s0, .int .u8 s1, .int .u8 s2, .int .u8 s3, .int .u8 s4, .int .u8 s5, .int .i64 ty, .string x]) := by rw [hw1, hfb]; exact own14_new w _
  have HFB := hid hfb
  have HC := hid (fun W (hk : Kept (fun _ => False) w1 W) => (H.kept (K1.out.trans hk) (fun h => h)).cells hx hy)
  obtain ⟨p0, p1, p2, p3, p4, p5, p6, p7, p8, p9, p10, p11, p12, p13⟩ := cells14 (C := fun W => Kept (fun _ => False) w1 W) (X := fb) (fun W hk => O1.out.kept (hk))
  have r0 := fun W (hk : Kept (fun _ => False) w1 W) => (HC.out W (hk)).c0
  have r1 := fun W (hk : Kept (fun _ => False) w1 W) => (HC.out W (hk)).c1
  have r2 := fun W (hk : Kept (fun _ => False) w1 W) => (HC.out W (hk)).c2
  have r3 := fun W (hk : Kept (fun _ => False) w1 W) => (HC.out W (hk)).c3
  have r4 := fun W (hk : Kept (fun _ => False) w1 W) => (HC.out W (hk)).c4
  have r5 := fun W (hk : Kept (fun _ => False) w1 W) => (HC.out W (hk)).c5
  have r12 := fun W (hk : Kept (fun _ => False) w1 W) => (HC.out W (hk)).c12
  have r13 := fun W (hk : Kept (fun _ => False) w1 W) => (HC.out W (hk)).c13
  have r14 := fun W (hk : Kept (fun _ => False) w1 W) => (HC.out W (hk)).c14
  have r15 := fun W (hk : Kept (fun _ => False) w1 W) => (HC.out W (hk)).c15
  have r16 := fun W (hk : Kept (fun _ => False) w1 W) => (HC.out W (hk)).c16
  have r17 := fun W (hk : Kept (fun _ => False) w1 W) => (HC.out W (hk)).c17
  have r10 := fun W (hk : Kept (fun _ => False) w1 W) => (HC.out W (hk)).c10
  have r11 := fun W (hk : Kept (fun _ => False) w1 W) => (HC.out W (hk)).c11
  have n3 : (h.state != 3) = true := by simpa using hst
  clear hE hE3 hst
  clear hfv hw1 hd hs H hx hy hdst hsrc hg hfb
  go_enter Tryz.func14, Tryz.ntmps14
  go_upto_region 1 with fail
  rw [← Hw1.out, ← HFB.out]
  refine wp_region_held_drew (S := Kept (fun _ => False) w1) (by kernel_rfl) ((Kept.refl _ w1).drew) (fun hSd => ?_)
  refine Tks.out (l := [(0, some none), (1, some none), (2, some none), (3, some none)]) ?_
  iterate 4
   refine tkT (v := ?_) rfl (by kernel_rfl) (by kernel_rfl) (by kernel_rfl) (fun _ _ _ h => h) (Or.inl ⟨by kernel_rfl, fun W hSW => by go_simp; try with_reducible rfl⟩) (by assumption) ?_
   try simp only [List.getElem_toArray, List.getElem_cons_succ, List.getElem_cons_zero]
   try go_frame
  refine tkE ?_
  refine Tks.out (l := [(4, some (some (.bool true))), (5, some (some (.bool true)))]) ?_
  iterate 2
   refine tkV rfl (by kernel_rfl) (by kernel_rfl) (by kernel_rfl) (fun _ _ _ h => h) (Or.inl ⟨by kernel_rfl, fun W hSW => by go_simp; try with_reducible rfl⟩) (by assumption) ?_
   try simp only [List.getElem_toArray, List.getElem_cons_succ, List.getElem_cons_zero]
   try go_frame
  refine tkE ?_
  refine Tks.out (l := [(6, none), (7, none), (8, none)]) ?_
  iterate 3
   refine tkS rfl (by kernel_rfl) (by kernel_rfl) (by kernel_rfl) (fun _ _ _ h => h) (Or.inr ⟨by kernel_rfl, rfl⟩) (by assumption) ?_
   try simp only [List.getElem_toArray, List.getElem_cons_succ, List.getElem_cons_zero]
   try go_frame
  refine tkE ?_
  refine Tks.out (l := [(9, some (some (.bool true))), (10, some (some (.bool true)))]) ?_
  iterate 2
   refine tkV rfl (by kernel_rfl) (by kernel_rfl) (by kernel_rfl) (fun _ _ _ h => h) (Or.inl ⟨by kernel_rfl, fun W hSW => by go_simp; try with_reducible rfl⟩) (by assumption) ?_
   try simp only [List.getElem_toArray, List.getElem_cons_succ, List.getElem_cons_zero]
   try go_frame
  refine tkE ?_
  refine Tks.out (l := [(11, none), (12, none), (13, none), (14, none), (15, none), (16, none), (17, none)]) ?_
  iterate 7
   refine tkS rfl (by kernel_rfl) (by kernel_rfl) (by kernel_rfl) (fun _ _ _ h => h) (Or.inr ⟨by kernel_rfl, rfl⟩) (by assumption) ?_
   try simp only [List.getElem_toArray, List.getElem_cons_succ, List.getElem_cons_zero]
   try go_frame
  refine tkE ?_
  refine Tks.out (l := [(18, some (some (.bool true))), (19, some (some (.bool true)))]) ?_
  iterate 2
   refine tkV rfl (by kernel_rfl) (by kernel_rfl) (by kernel_rfl) (fun _ _ _ h => h) (Or.inl ⟨by kernel_rfl, fun W hSW => by go_simp; try with_reducible rfl⟩) (by assumption) ?_
   try simp only [List.getElem_toArray, List.getElem_cons_succ, List.getElem_cons_zero]
   try go_frame
  refine tkE ?_
  refine Tks.out (l := [(20, none), (21, none), (22, none), (23, none), (24, none), (25, none), (26, none)]) ?_
  iterate 7
   refine tkS rfl (by kernel_rfl) (by kernel_rfl) (by kernel_rfl) (fun _ _ _ h => h) (Or.inr ⟨by kernel_rfl, rfl⟩) (by assumption) ?_
   try simp only [List.getElem_toArray, List.getElem_cons_succ, List.getElem_cons_zero]
   try go_frame
  refine tkE ?_
  refine wpAnyH_take (i := 27) (v := (.bool true)) rfl (by kernel_rfl) (by kernel_rfl) (by kernel_rfl) (fun _ _ _ h => h) (Or.inl ⟨by kernel_rfl, fun W hSW => by go_simp; try with_reducible rfl⟩) (by assumption) ?_
  try simp only [List.getElem_toArray, List.getElem_cons_succ, List.getElem_cons_zero]
  try go_frame
  refine wpAnyH_done (by kernel_rfl) ?_ _
  go_wp2
  go_ret2
  exact ⟨rfl, K1.out.drew⟩

set_option maxHeartbeats 4000000 in
set_option maxRecDepth 100000 in
theorem rData_type (b : Nat) (h : Hd) (hg : GoodD h) (dst src : List UInt8) (hdst : dst.length = 6) (hsrc : src.length = 6) (ty : Int) (x : ByteArray) (_hsz : x.size ≤ 1000000) (w : World) (H : HdIn w b h) (hst : h.state = 3) (hty : ¬ ty = 34916) :
    Calls Tryz.prog 14 #[.pointer (some ⟨b, 0, none⟩), frV ⟨dst, src, ty, x⟩] w fun e w' => e = .returned (.tuple #[.string ⟨#[]⟩, .bool false]) ∧ Kept (fun _ => False) w w' := by
  obtain ⟨x0, x1, x2, x3, x4, x5, hx⟩ := six_cells hg.mac
  obtain ⟨y0, y1, y2, y3, y4, y5, hy⟩ := six_cells hg.ac
  obtain ⟨d0, d1, d2, d3, d4, d5, hd⟩ := six_cells hdst
  obtain ⟨s0, s1, s2, s3, s4, s5, hs⟩ := six_cells hsrc
  have hfv : frV ⟨dst, src, ty, x⟩ = .agg #[.int .u8 d0, .int .u8 d1, .int .u8 d2, .int .u8 d3, .int .u8 d4, .int .u8 d5, .int .u8 s0, .int .u8 s1, .int .u8 s2, .int .u8 s3, .int .u8 s4, .int .u8 s5, .int .i64 ty, .string x] := by unfold frV frList; simp only []; rw [hd, hs]; rfl
  rw [hfv]
  have hE := mac_eq dst h.mac hdst hg.mac
  rw [hd, hx] at hE
  have hE3 := mac_eq src h.ac hsrc hg.ac
  rw [hs, hy] at hE3
  obtain ⟨w1, hw1⟩ : ∃ w1, w1 = w.alloc (.cells #[.int .u8 d0, .int .u8 d1, .int .u8 d2, .int .u8 d3, .int .u8 d4, .int .u8 d5, .int .u8 s0, .int .u8 s1, .int .u8 s2, .int .u8 s3, .int .u8 s4, .int .u8 s5, .int .i64 ty, .string x] 55) := ⟨_, rfl⟩
  have Hw1 := hid hw1
  have K1 : Hid (Kept (fun _ => False) w w1) := by rw [hw1]; exact (Kept.refl _ w).alloc _
  obtain ⟨fb, hfb⟩ : ∃ fb, fb = w.heap.size := ⟨_, rfl⟩
  have O1 : Hid (Own14 w1 fb #[.int .u8 d0, .int .u8 d1, .int .u8 d2, .int .u8 d3, .int .u8 d4, .int .u8 d5, .int .u8 s0, .int .u8 s1, .int .u8 s2, .int .u8 s3, .int .u8 s4, .int .u8 s5, .int .i64 ty, .string x]) := by rw [hw1, hfb]; exact own14_new w _
  have HFB := hid hfb
  have HC := hid (fun W (hk : Kept (fun _ => False) w1 W) => (H.kept (K1.out.trans hk) (fun h => h)).cells hx hy)
  obtain ⟨p0, p1, p2, p3, p4, p5, p6, p7, p8, p9, p10, p11, p12, p13⟩ := cells14 (C := fun W => Kept (fun _ => False) w1 W) (X := fb) (fun W hk => O1.out.kept (hk))
  have r0 := fun W (hk : Kept (fun _ => False) w1 W) => (HC.out W (hk)).c0
  have r1 := fun W (hk : Kept (fun _ => False) w1 W) => (HC.out W (hk)).c1
  have r2 := fun W (hk : Kept (fun _ => False) w1 W) => (HC.out W (hk)).c2
  have r3 := fun W (hk : Kept (fun _ => False) w1 W) => (HC.out W (hk)).c3
  have r4 := fun W (hk : Kept (fun _ => False) w1 W) => (HC.out W (hk)).c4
  have r5 := fun W (hk : Kept (fun _ => False) w1 W) => (HC.out W (hk)).c5
  have r12 := fun W (hk : Kept (fun _ => False) w1 W) => (HC.out W (hk)).c12
  have r13 := fun W (hk : Kept (fun _ => False) w1 W) => (HC.out W (hk)).c13
  have r14 := fun W (hk : Kept (fun _ => False) w1 W) => (HC.out W (hk)).c14
  have r15 := fun W (hk : Kept (fun _ => False) w1 W) => (HC.out W (hk)).c15
  have r16 := fun W (hk : Kept (fun _ => False) w1 W) => (HC.out W (hk)).c16
  have r17 := fun W (hk : Kept (fun _ => False) w1 W) => (HC.out W (hk)).c17
  have r10 := fun W (hk : Kept (fun _ => False) w1 W) => (HC.out W (hk)).c10
  have r11 := fun W (hk : Kept (fun _ => False) w1 W) => (HC.out W (hk)).c11
  have n3 : (h.state != 3) = false := by simpa using hst
  have nt : (ty != 34916) = true := by simpa using hty
  clear hE hE3 hst hty
  clear hfv hw1 hd hs H hx hy hdst hsrc hg hfb
  go_enter Tryz.func14, Tryz.ntmps14
  go_upto_region 1 with fail
  rw [← Hw1.out, ← HFB.out]
  refine wp_region_held_drew (S := Kept (fun _ => False) w1) (by kernel_rfl) ((Kept.refl _ w1).drew) (fun hSd => ?_)
  refine Tks.out (l := [(0, some none), (1, some none), (2, some none), (3, some none)]) ?_
  iterate 4
   refine tkT (v := ?_) rfl (by kernel_rfl) (by kernel_rfl) (by kernel_rfl) (fun _ _ _ h => h) (Or.inl ⟨by kernel_rfl, fun W hSW => by go_simp; try with_reducible rfl⟩) (by assumption) ?_
   try simp only [List.getElem_toArray, List.getElem_cons_succ, List.getElem_cons_zero]
   try go_frame
  refine tkE ?_
  refine Tks.out (l := [(4, some (some (.bool false))), (5, some (some (.bool false)))]) ?_
  iterate 2
   refine tkV rfl (by kernel_rfl) (by kernel_rfl) (by kernel_rfl) (fun _ _ _ h => h) (Or.inl ⟨by kernel_rfl, fun W hSW => by go_simp; try with_reducible rfl⟩) (by assumption) ?_
   try simp only [List.getElem_toArray, List.getElem_cons_succ, List.getElem_cons_zero]
   try go_frame
  refine tkE ?_
  refine Tks.out (l := [(6, some none), (7, some none)]) ?_
  iterate 2
   refine tkT (v := ?_) rfl (by kernel_rfl) (by kernel_rfl) (by kernel_rfl) (fun _ _ _ h => h) (Or.inl ⟨by kernel_rfl, fun W hSW => by go_simp; try with_reducible rfl⟩) (by assumption) ?_
   try simp only [List.getElem_toArray, List.getElem_cons_succ, List.getElem_cons_zero]
   try go_frame
  refine tkE ?_
  refine Tks.out (l := [(8, some (some (.bool true))), (9, some (some (.bool true))), (10, some (some (.bool true)))]) ?_
  iterate 3
   refine tkV rfl (by kernel_rfl) (by kernel_rfl) (by kernel_rfl) (fun _ _ _ h => h) (Or.inl ⟨by kernel_rfl, fun W hSW => by go_simp; try with_reducible rfl⟩) (by assumption) ?_
   try simp only [List.getElem_toArray, List.getElem_cons_succ, List.getElem_cons_zero]
   try go_frame
  refine tkE ?_
  refine Tks.out (l := [(11, none), (12, none), (13, none), (14, none), (15, none), (16, none), (17, none)]) ?_
  iterate 7
   refine tkS rfl (by kernel_rfl) (by kernel_rfl) (by kernel_rfl) (fun _ _ _ h => h) (Or.inr ⟨by kernel_rfl, rfl⟩) (by assumption) ?_
   try simp only [List.getElem_toArray, List.getElem_cons_succ, List.getElem_cons_zero]
   try go_frame
  refine tkE ?_
  refine Tks.out (l := [(18, some (some (.bool true))), (19, some (some (.bool true)))]) ?_
  iterate 2
   refine tkV rfl (by kernel_rfl) (by kernel_rfl) (by kernel_rfl) (fun _ _ _ h => h) (Or.inl ⟨by kernel_rfl, fun W hSW => by go_simp; try with_reducible rfl⟩) (by assumption) ?_
   try simp only [List.getElem_toArray, List.getElem_cons_succ, List.getElem_cons_zero]
   try go_frame
  refine tkE ?_
  refine Tks.out (l := [(20, none), (21, none), (22, none), (23, none), (24, none), (25, none), (26, none)]) ?_
  iterate 7
   refine tkS rfl (by kernel_rfl) (by kernel_rfl) (by kernel_rfl) (fun _ _ _ h => h) (Or.inr ⟨by kernel_rfl, rfl⟩) (by assumption) ?_
   try simp only [List.getElem_toArray, List.getElem_cons_succ, List.getElem_cons_zero]
   try go_frame
  refine tkE ?_
  refine wpAnyH_take (i := 27) (v := (.bool true)) rfl (by kernel_rfl) (by kernel_rfl) (by kernel_rfl) (fun _ _ _ h => h) (Or.inl ⟨by kernel_rfl, fun W hSW => by go_simp; try with_reducible rfl⟩) (by assumption) ?_
  try simp only [List.getElem_toArray, List.getElem_cons_succ, List.getElem_cons_zero]
  try go_frame
  refine wpAnyH_done (by kernel_rfl) ?_ _
  go_wp2
  go_ret2
  exact ⟨rfl, K1.out.drew⟩

set_option maxHeartbeats 4000000 in
set_option maxRecDepth 100000 in
theorem rData_src (b : Nat) (h : Hd) (hg : GoodD h) (dst src : List UInt8) (hdst : dst.length = 6) (hsrc : src.length = 6) (ty : Int) (x : ByteArray) (_hsz : x.size ≤ 1000000) (w : World) (H : HdIn w b h) (hst : h.state = 3) (hty : ty = 34916) (hc : ¬ src = h.ac) :
    Calls Tryz.prog 14 #[.pointer (some ⟨b, 0, none⟩), frV ⟨dst, src, ty, x⟩] w fun e w' => e = .returned (.tuple #[.string ⟨#[]⟩, .bool false]) ∧ Kept (fun _ => False) w w' := by
  obtain ⟨x0, x1, x2, x3, x4, x5, hx⟩ := six_cells hg.mac
  obtain ⟨y0, y1, y2, y3, y4, y5, hy⟩ := six_cells hg.ac
  obtain ⟨d0, d1, d2, d3, d4, d5, hd⟩ := six_cells hdst
  obtain ⟨s0, s1, s2, s3, s4, s5, hs⟩ := six_cells hsrc
  have hfv : frV ⟨dst, src, ty, x⟩ = .agg #[.int .u8 d0, .int .u8 d1, .int .u8 d2, .int .u8 d3, .int .u8 d4, .int .u8 d5, .int .u8 s0, .int .u8 s1, .int .u8 s2, .int .u8 s3, .int .u8 s4, .int .u8 s5, .int .i64 ty, .string x] := by unfold frV frList; simp only []; rw [hd, hs]; rfl
  rw [hfv]
  have hE := mac_eq dst h.mac hdst hg.mac
  rw [hd, hx] at hE
  have hE3 := mac_eq src h.ac hsrc hg.ac
  rw [hs, hy] at hE3
  obtain ⟨w1, hw1⟩ : ∃ w1, w1 = w.alloc (.cells #[.int .u8 d0, .int .u8 d1, .int .u8 d2, .int .u8 d3, .int .u8 d4, .int .u8 d5, .int .u8 s0, .int .u8 s1, .int .u8 s2, .int .u8 s3, .int .u8 s4, .int .u8 s5, .int .i64 ty, .string x] 55) := ⟨_, rfl⟩
  have Hw1 := hid hw1
  have K1 : Hid (Kept (fun _ => False) w w1) := by rw [hw1]; exact (Kept.refl _ w).alloc _
  obtain ⟨fb, hfb⟩ : ∃ fb, fb = w.heap.size := ⟨_, rfl⟩
  have O1 : Hid (Own14 w1 fb #[.int .u8 d0, .int .u8 d1, .int .u8 d2, .int .u8 d3, .int .u8 d4, .int .u8 d5, .int .u8 s0, .int .u8 s1, .int .u8 s2, .int .u8 s3, .int .u8 s4, .int .u8 s5, .int .i64 ty, .string x]) := by rw [hw1, hfb]; exact own14_new w _
  have HFB := hid hfb
  have HC := hid (fun W (hk : Kept (fun _ => False) w1 W) => (H.kept (K1.out.trans hk) (fun h => h)).cells hx hy)
  obtain ⟨p0, p1, p2, p3, p4, p5, p6, p7, p8, p9, p10, p11, p12, p13⟩ := cells14 (C := fun W => Kept (fun _ => False) w1 W) (X := fb) (fun W hk => O1.out.kept (hk))
  have r0 := fun W (hk : Kept (fun _ => False) w1 W) => (HC.out W (hk)).c0
  have r1 := fun W (hk : Kept (fun _ => False) w1 W) => (HC.out W (hk)).c1
  have r2 := fun W (hk : Kept (fun _ => False) w1 W) => (HC.out W (hk)).c2
  have r3 := fun W (hk : Kept (fun _ => False) w1 W) => (HC.out W (hk)).c3
  have r4 := fun W (hk : Kept (fun _ => False) w1 W) => (HC.out W (hk)).c4
  have r5 := fun W (hk : Kept (fun _ => False) w1 W) => (HC.out W (hk)).c5
  have r12 := fun W (hk : Kept (fun _ => False) w1 W) => (HC.out W (hk)).c12
  have r13 := fun W (hk : Kept (fun _ => False) w1 W) => (HC.out W (hk)).c13
  have r14 := fun W (hk : Kept (fun _ => False) w1 W) => (HC.out W (hk)).c14
  have r15 := fun W (hk : Kept (fun _ => False) w1 W) => (HC.out W (hk)).c15
  have r16 := fun W (hk : Kept (fun _ => False) w1 W) => (HC.out W (hk)).c16
  have r17 := fun W (hk : Kept (fun _ => False) w1 W) => (HC.out W (hk)).c17
  have r10 := fun W (hk : Kept (fun _ => False) w1 W) => (HC.out W (hk)).c10
  have r11 := fun W (hk : Kept (fun _ => False) w1 W) => (HC.out W (hk)).c11
  have n3 : (h.state != 3) = false := by simpa using hst
  have nt : (ty != 34916) = false := by simpa using hty
  rw [decide_eq_false hc] at hE3
  clear hE hst hty hc
  clear hfv hw1 hd hs H hx hy hdst hsrc hg hfb
  go_enter Tryz.func14, Tryz.ntmps14
  go_upto_region 1 with fail
  rw [← Hw1.out, ← HFB.out]
  refine wp_region_held_drew (S := Kept (fun _ => False) w1) (by kernel_rfl) ((Kept.refl _ w1).drew) (fun hSd => ?_)
  refine Tks.out (l := [(0, some none), (1, some none), (2, some none), (3, some none)]) ?_
  iterate 4
   refine tkT (v := ?_) rfl (by kernel_rfl) (by kernel_rfl) (by kernel_rfl) (fun _ _ _ h => h) (Or.inl ⟨by kernel_rfl, fun W hSW => by go_simp; try with_reducible rfl⟩) (by assumption) ?_
   try simp only [List.getElem_toArray, List.getElem_cons_succ, List.getElem_cons_zero]
   try go_frame
  refine tkE ?_
  refine Tks.out (l := [(4, some (some (.bool false))), (5, some (some (.bool false)))]) ?_
  iterate 2
   refine tkV rfl (by kernel_rfl) (by kernel_rfl) (by kernel_rfl) (fun _ _ _ h => h) (Or.inl ⟨by kernel_rfl, fun W hSW => by go_simp; try with_reducible rfl⟩) (by assumption) ?_
   try simp only [List.getElem_toArray, List.getElem_cons_succ, List.getElem_cons_zero]
   try go_frame
  refine tkE ?_
  refine Tks.out (l := [(6, some none), (7, some none)]) ?_
  iterate 2
   refine tkT (v := ?_) rfl (by kernel_rfl) (by kernel_rfl) (by kernel_rfl) (fun _ _ _ h => h) (Or.inl ⟨by kernel_rfl, fun W hSW => by go_simp; try with_reducible rfl⟩) (by assumption) ?_
   try simp only [List.getElem_toArray, List.getElem_cons_succ, List.getElem_cons_zero]
   try go_frame
  refine tkE ?_
  refine Tks.out (l := [(8, some (some (.bool false))), (9, some (some (.bool false))), (10, some (some (.bool false)))]) ?_
  iterate 3
   refine tkV rfl (by kernel_rfl) (by kernel_rfl) (by kernel_rfl) (fun _ _ _ h => h) (Or.inl ⟨by kernel_rfl, fun W hSW => by go_simp; try with_reducible rfl⟩) (by assumption) ?_
   try simp only [List.getElem_toArray, List.getElem_cons_succ, List.getElem_cons_zero]
   try go_frame
  refine tkE ?_
  refine Tks.out (l := [(11, some none), (12, some none), (13, some none), (14, some none), (15, some none), (16, some none)]) ?_
  iterate 6
   refine tkT (v := ?_) rfl (by kernel_rfl) (by kernel_rfl) (by kernel_rfl) (fun _ _ _ h => h) (Or.inl ⟨by kernel_rfl, fun W hSW => by go_simp; try with_reducible rfl⟩) (by assumption) ?_
   try simp only [List.getElem_toArray, List.getElem_cons_succ, List.getElem_cons_zero]
   try go_frame
  refine tkE ?_
  refine Tks.out (l := [(17, some (some (.bool true))), (18, some (some (.bool true))), (19, some (some (.bool true)))]) ?_
  iterate 3
   refine tkV rfl (by kernel_rfl) (by kernel_rfl) (by kernel_rfl) (fun _ _ _ h => h) (Or.inl ⟨by kernel_rfl, fun W hSW => by go_simp; try with_reducible rfl⟩) (by assumption) ?_
   try simp only [List.getElem_toArray, List.getElem_cons_succ, List.getElem_cons_zero]
   try go_frame
  refine tkE ?_
  refine Tks.out (l := [(20, none), (21, none), (22, none), (23, none), (24, none), (25, none), (26, none)]) ?_
  iterate 7
   refine tkS rfl (by kernel_rfl) (by kernel_rfl) (by kernel_rfl) (fun _ _ _ h => h) (Or.inr ⟨by kernel_rfl, rfl⟩) (by assumption) ?_
   try simp only [List.getElem_toArray, List.getElem_cons_succ, List.getElem_cons_zero]
   try go_frame
  refine tkE ?_
  refine wpAnyH_take (i := 27) (v := (.bool true)) rfl (by kernel_rfl) (by kernel_rfl) (by kernel_rfl) (fun _ _ _ h => h) (Or.inl ⟨by kernel_rfl, fun W hSW => by go_simp; try with_reducible rfl⟩) (by assumption) ?_
  try simp only [List.getElem_toArray, List.getElem_cons_succ, List.getElem_cons_zero]
  try go_frame
  refine wpAnyH_done (by kernel_rfl) ?_ _
  go_wp2
  go_ret2
  exact ⟨rfl, K1.out.drew⟩

set_option maxHeartbeats 4000000 in
set_option maxRecDepth 100000 in
theorem rData_dst (b : Nat) (h : Hd) (hg : GoodD h) (dst src : List UInt8) (hdst : dst.length = 6) (hsrc : src.length = 6) (ty : Int) (x : ByteArray) (_hsz : x.size ≤ 1000000) (w : World) (H : HdIn w b h) (hst : h.state = 3) (hty : ty = 34916) (hc : src = h.ac) (hm : ¬ dst = h.mac) :
    Calls Tryz.prog 14 #[.pointer (some ⟨b, 0, none⟩), frV ⟨dst, src, ty, x⟩] w fun e w' => e = .returned (.tuple #[.string ⟨#[]⟩, .bool false]) ∧ Kept (fun _ => False) w w' := by
  obtain ⟨x0, x1, x2, x3, x4, x5, hx⟩ := six_cells hg.mac
  obtain ⟨y0, y1, y2, y3, y4, y5, hy⟩ := six_cells hg.ac
  obtain ⟨d0, d1, d2, d3, d4, d5, hd⟩ := six_cells hdst
  obtain ⟨s0, s1, s2, s3, s4, s5, hs⟩ := six_cells hsrc
  have hfv : frV ⟨dst, src, ty, x⟩ = .agg #[.int .u8 d0, .int .u8 d1, .int .u8 d2, .int .u8 d3, .int .u8 d4, .int .u8 d5, .int .u8 s0, .int .u8 s1, .int .u8 s2, .int .u8 s3, .int .u8 s4, .int .u8 s5, .int .i64 ty, .string x] := by unfold frV frList; simp only []; rw [hd, hs]; rfl
  rw [hfv]
  have hE := mac_eq dst h.mac hdst hg.mac
  rw [hd, hx] at hE
  have hE3 := mac_eq src h.ac hsrc hg.ac
  rw [hs, hy] at hE3
  obtain ⟨w1, hw1⟩ : ∃ w1, w1 = w.alloc (.cells #[.int .u8 d0, .int .u8 d1, .int .u8 d2, .int .u8 d3, .int .u8 d4, .int .u8 d5, .int .u8 s0, .int .u8 s1, .int .u8 s2, .int .u8 s3, .int .u8 s4, .int .u8 s5, .int .i64 ty, .string x] 55) := ⟨_, rfl⟩
  have Hw1 := hid hw1
  have K1 : Hid (Kept (fun _ => False) w w1) := by rw [hw1]; exact (Kept.refl _ w).alloc _
  obtain ⟨fb, hfb⟩ : ∃ fb, fb = w.heap.size := ⟨_, rfl⟩
  have O1 : Hid (Own14 w1 fb #[.int .u8 d0, .int .u8 d1, .int .u8 d2, .int .u8 d3, .int .u8 d4, .int .u8 d5, .int .u8 s0, .int .u8 s1, .int .u8 s2, .int .u8 s3, .int .u8 s4, .int .u8 s5, .int .i64 ty, .string x]) := by rw [hw1, hfb]; exact own14_new w _
  have HFB := hid hfb
  have HC := hid (fun W (hk : Kept (fun _ => False) w1 W) => (H.kept (K1.out.trans hk) (fun h => h)).cells hx hy)
  obtain ⟨p0, p1, p2, p3, p4, p5, p6, p7, p8, p9, p10, p11, p12, p13⟩ := cells14 (C := fun W => Kept (fun _ => False) w1 W) (X := fb) (fun W hk => O1.out.kept (hk))
  have r0 := fun W (hk : Kept (fun _ => False) w1 W) => (HC.out W (hk)).c0
  have r1 := fun W (hk : Kept (fun _ => False) w1 W) => (HC.out W (hk)).c1
  have r2 := fun W (hk : Kept (fun _ => False) w1 W) => (HC.out W (hk)).c2
  have r3 := fun W (hk : Kept (fun _ => False) w1 W) => (HC.out W (hk)).c3
  have r4 := fun W (hk : Kept (fun _ => False) w1 W) => (HC.out W (hk)).c4
  have r5 := fun W (hk : Kept (fun _ => False) w1 W) => (HC.out W (hk)).c5
  have r12 := fun W (hk : Kept (fun _ => False) w1 W) => (HC.out W (hk)).c12
  have r13 := fun W (hk : Kept (fun _ => False) w1 W) => (HC.out W (hk)).c13
  have r14 := fun W (hk : Kept (fun _ => False) w1 W) => (HC.out W (hk)).c14
  have r15 := fun W (hk : Kept (fun _ => False) w1 W) => (HC.out W (hk)).c15
  have r16 := fun W (hk : Kept (fun _ => False) w1 W) => (HC.out W (hk)).c16
  have r17 := fun W (hk : Kept (fun _ => False) w1 W) => (HC.out W (hk)).c17
  have r10 := fun W (hk : Kept (fun _ => False) w1 W) => (HC.out W (hk)).c10
  have r11 := fun W (hk : Kept (fun _ => False) w1 W) => (HC.out W (hk)).c11
  have n3 : (h.state != 3) = false := by simpa using hst
  have nt : (ty != 34916) = false := by simpa using hty
  rw [decide_eq_true hc] at hE3
  rw [decide_eq_false hm] at hE
  clear hst hty hc hm
  clear hfv hw1 hd hs H hx hy hdst hsrc hg hfb
  go_enter Tryz.func14, Tryz.ntmps14
  go_upto_region 1 with fail
  rw [← Hw1.out, ← HFB.out]
  refine wp_region_held_drew (S := Kept (fun _ => False) w1) (by kernel_rfl) ((Kept.refl _ w1).drew) (fun hSd => ?_)
  refine Tks.out (l := [(0, some none), (1, some none), (2, some none), (3, some none)]) ?_
  iterate 4
   refine tkT (v := ?_) rfl (by kernel_rfl) (by kernel_rfl) (by kernel_rfl) (fun _ _ _ h => h) (Or.inl ⟨by kernel_rfl, fun W hSW => by go_simp; try with_reducible rfl⟩) (by assumption) ?_
   try simp only [List.getElem_toArray, List.getElem_cons_succ, List.getElem_cons_zero]
   try go_frame
  refine tkE ?_
  refine Tks.out (l := [(4, some (some (.bool false))), (5, some (some (.bool false)))]) ?_
  iterate 2
   refine tkV rfl (by kernel_rfl) (by kernel_rfl) (by kernel_rfl) (fun _ _ _ h => h) (Or.inl ⟨by kernel_rfl, fun W hSW => by go_simp; try with_reducible rfl⟩) (by assumption) ?_
   try simp only [List.getElem_toArray, List.getElem_cons_succ, List.getElem_cons_zero]
   try go_frame
  refine tkE ?_
  refine Tks.out (l := [(6, some none), (7, some none)]) ?_
  iterate 2
   refine tkT (v := ?_) rfl (by kernel_rfl) (by kernel_rfl) (by kernel_rfl) (fun _ _ _ h => h) (Or.inl ⟨by kernel_rfl, fun W hSW => by go_simp; try with_reducible rfl⟩) (by assumption) ?_
   try simp only [List.getElem_toArray, List.getElem_cons_succ, List.getElem_cons_zero]
   try go_frame
  refine tkE ?_
  refine Tks.out (l := [(8, some (some (.bool false))), (9, some (some (.bool false))), (10, some (some (.bool false)))]) ?_
  iterate 3
   refine tkV rfl (by kernel_rfl) (by kernel_rfl) (by kernel_rfl) (fun _ _ _ h => h) (Or.inl ⟨by kernel_rfl, fun W hSW => by go_simp; try with_reducible rfl⟩) (by assumption) ?_
   try simp only [List.getElem_toArray, List.getElem_cons_succ, List.getElem_cons_zero]
   try go_frame
  refine tkE ?_
  refine Tks.out (l := [(11, some none), (12, some none), (13, some none), (14, some none), (15, some none), (16, some none)]) ?_
  iterate 6
   refine tkT (v := ?_) rfl (by kernel_rfl) (by kernel_rfl) (by kernel_rfl) (fun _ _ _ h => h) (Or.inl ⟨by kernel_rfl, fun W hSW => by go_simp; try with_reducible rfl⟩) (by assumption) ?_
   try simp only [List.getElem_toArray, List.getElem_cons_succ, List.getElem_cons_zero]
   try go_frame
  refine tkE ?_
  refine Tks.out (l := [(17, some (some (.bool false))), (18, some (some (.bool false))), (19, some (some (.bool false)))]) ?_
  iterate 3
   refine tkV rfl (by kernel_rfl) (by kernel_rfl) (by kernel_rfl) (fun _ _ _ h => h) (Or.inl ⟨by kernel_rfl, fun W hSW => by go_simp; try with_reducible rfl⟩) (by assumption) ?_
   try simp only [List.getElem_toArray, List.getElem_cons_succ, List.getElem_cons_zero]
   try go_frame
  refine tkE ?_
  refine Tks.out (l := [(20, some none), (21, some none), (22, some none), (23, some none), (24, some none), (25, some none)]) ?_
  iterate 6
   refine tkT (v := ?_) rfl (by kernel_rfl) (by kernel_rfl) (by kernel_rfl) (fun _ _ _ h => h) (Or.inl ⟨by kernel_rfl, fun W hSW => by go_simp; try with_reducible rfl⟩) (by assumption) ?_
   try simp only [List.getElem_toArray, List.getElem_cons_succ, List.getElem_cons_zero]
   try go_frame
  refine tkE ?_
  refine Tks.out (l := [(26, some (some (.bool true))), (27, some (some (.bool true)))]) ?_
  iterate 2
   refine tkV rfl (by kernel_rfl) (by kernel_rfl) (by kernel_rfl) (fun _ _ _ h => h) (Or.inl ⟨by kernel_rfl, fun W hSW => by go_simp; try with_reducible rfl⟩) (by assumption) ?_
   try simp only [List.getElem_toArray, List.getElem_cons_succ, List.getElem_cons_zero]
   try go_frame
  refine tkE ?_
  refine wpAnyH_done (by kernel_rfl) ?_ _
  go_wp2
  go_ret2
  exact ⟨rfl, K1.out.drew⟩

set_option maxHeartbeats 4000000 in
set_option maxRecDepth 100000 in
theorem rData_err (b : Nat) (h : Hd) (hg : GoodD h) (dst src : List UInt8) (hdst : dst.length = 6) (hsrc : src.length = 6) (ty : Int) (x : ByteArray) (_hsz : x.size ≤ 1000000) (w : World) (H : HdIn w b h) (hst : h.state = 3) (hty : ty = 34916) (hc : src = h.ac) (hm : dst = h.mac) (dc : Dc) (E : Int) (hget : getDiscF x.data.toList = (dc, E)) (hE0 : ¬ E = 0) :
    Calls Tryz.prog 14 #[.pointer (some ⟨b, 0, none⟩), frV ⟨dst, src, ty, x⟩] w fun e w' => e = .returned (.tuple #[.string ⟨#[]⟩, .bool false]) ∧ Kept (fun _ => False) w w' := by
  obtain ⟨x0, x1, x2, x3, x4, x5, hx⟩ := six_cells hg.mac
  obtain ⟨y0, y1, y2, y3, y4, y5, hy⟩ := six_cells hg.ac
  obtain ⟨d0, d1, d2, d3, d4, d5, hd⟩ := six_cells hdst
  obtain ⟨s0, s1, s2, s3, s4, s5, hs⟩ := six_cells hsrc
  have hfv : frV ⟨dst, src, ty, x⟩ = .agg #[.int .u8 d0, .int .u8 d1, .int .u8 d2, .int .u8 d3, .int .u8 d4, .int .u8 d5, .int .u8 s0, .int .u8 s1, .int .u8 s2, .int .u8 s3, .int .u8 s4, .int .u8 s5, .int .i64 ty, .string x] := by unfold frV frList; simp only []; rw [hd, hs]; rfl
  rw [hfv]
  have hE := mac_eq dst h.mac hdst hg.mac
  rw [hd, hx] at hE
  have hE3 := mac_eq src h.ac hsrc hg.ac
  rw [hs, hy] at hE3
  obtain ⟨w1, hw1⟩ : ∃ w1, w1 = w.alloc (.cells #[.int .u8 d0, .int .u8 d1, .int .u8 d2, .int .u8 d3, .int .u8 d4, .int .u8 d5, .int .u8 s0, .int .u8 s1, .int .u8 s2, .int .u8 s3, .int .u8 s4, .int .u8 s5, .int .i64 ty, .string x] 55) := ⟨_, rfl⟩
  have Hw1 := hid hw1
  have K1 : Hid (Kept (fun _ => False) w w1) := by rw [hw1]; exact (Kept.refl _ w).alloc _
  obtain ⟨fb, hfb⟩ : ∃ fb, fb = w.heap.size := ⟨_, rfl⟩
  have O1 : Hid (Own14 w1 fb #[.int .u8 d0, .int .u8 d1, .int .u8 d2, .int .u8 d3, .int .u8 d4, .int .u8 d5, .int .u8 s0, .int .u8 s1, .int .u8 s2, .int .u8 s3, .int .u8 s4, .int .u8 s5, .int .i64 ty, .string x]) := by rw [hw1, hfb]; exact own14_new w _
  have HFB := hid hfb
  have HC := hid (fun W (hk : Kept (fun _ => False) w1 W) => (H.kept (K1.out.trans hk) (fun h => h)).cells hx hy)
  obtain ⟨p0, p1, p2, p3, p4, p5, p6, p7, p8, p9, p10, p11, p12, p13⟩ := cells14 (C := fun W => Kept (fun _ => False) w1 W) (X := fb) (fun W hk => O1.out.kept (hk))
  have r0 := fun W (hk : Kept (fun _ => False) w1 W) => (HC.out W (hk)).c0
  have r1 := fun W (hk : Kept (fun _ => False) w1 W) => (HC.out W (hk)).c1
  have r2 := fun W (hk : Kept (fun _ => False) w1 W) => (HC.out W (hk)).c2
  have r3 := fun W (hk : Kept (fun _ => False) w1 W) => (HC.out W (hk)).c3
  have r4 := fun W (hk : Kept (fun _ => False) w1 W) => (HC.out W (hk)).c4
  have r5 := fun W (hk : Kept (fun _ => False) w1 W) => (HC.out W (hk)).c5
  have r12 := fun W (hk : Kept (fun _ => False) w1 W) => (HC.out W (hk)).c12
  have r13 := fun W (hk : Kept (fun _ => False) w1 W) => (HC.out W (hk)).c13
  have r14 := fun W (hk : Kept (fun _ => False) w1 W) => (HC.out W (hk)).c14
  have r15 := fun W (hk : Kept (fun _ => False) w1 W) => (HC.out W (hk)).c15
  have r16 := fun W (hk : Kept (fun _ => False) w1 W) => (HC.out W (hk)).c16
  have r17 := fun W (hk : Kept (fun _ => False) w1 W) => (HC.out W (hk)).c17
  have r10 := fun W (hk : Kept (fun _ => False) w1 W) => (HC.out W (hk)).c10
  have r11 := fun W (hk : Kept (fun _ => False) w1 W) => (HC.out W (hk)).c11
  rw [decide_eq_true hc] at hE3
  rw [decide_eq_true hm] at hE
  have n3 : (h.state != 3) = false := by simpa using hst
  have nt : (ty != 34916) = false := by simpa using hty
  have HG := hid (fun W => refGet_any x (by omega) W)
  rw [hget] at HG
  unfold discV at HG
  simp only at HG
  have m0 : (E != 0) = true := by simpa using hE0
  clear hst hty hc hm hget hE0
  clear hfv hw1 hd hs H hx hy hdst hsrc hg hfb
  go_enter Tryz.func14, Tryz.ntmps14
  go_upto_region 1 with fail
  rw [← Hw1.out, ← HFB.out]
  refine wp_region_held_drew (S := Kept (fun _ => False) w1) (by kernel_rfl) ((Kept.refl _ w1).drew) (fun hSd => ?_)
  refine Tks.out (l := [(0, some none), (1, some none), (2, some none), (3, some none)]) ?_
  iterate 4
   refine tkT (v := ?_) rfl (by kernel_rfl) (by kernel_rfl) (by kernel_rfl) (fun _ _ _ h => h) (Or.inl ⟨by kernel_rfl, fun W hSW => by go_simp; try with_reducible rfl⟩) (by assumption) ?_
   try simp only [List.getElem_toArray, List.getElem_cons_succ, List.getElem_cons_zero]
   try go_frame
  refine tkE ?_
  refine Tks.out (l := [(4, some (some (.bool false))), (5, some (some (.bool false)))]) ?_
  iterate 2
   refine tkV rfl (by kernel_rfl) (by kernel_rfl) (by kernel_rfl) (fun _ _ _ h => h) (Or.inl ⟨by kernel_rfl, fun W hSW => by go_simp; try with_reducible rfl⟩) (by assumption) ?_
   try simp only [List.getElem_toArray, List.getElem_cons_succ, List.getElem_cons_zero]
   try go_frame
  refine tkE ?_
  refine Tks.out (l := [(6, some none), (7, some none)]) ?_
  iterate 2
   refine tkT (v := ?_) rfl (by kernel_rfl) (by kernel_rfl) (by kernel_rfl) (fun _ _ _ h => h) (Or.inl ⟨by kernel_rfl, fun W hSW => by go_simp; try with_reducible rfl⟩) (by assumption) ?_
   try simp only [List.getElem_toArray, List.getElem_cons_succ, List.getElem_cons_zero]
   try go_frame
  refine tkE ?_
  refine Tks.out (l := [(8, some (some (.bool false))), (9, some (some (.bool false))), (10, some (some (.bool false)))]) ?_
  iterate 3
   refine tkV rfl (by kernel_rfl) (by kernel_rfl) (by kernel_rfl) (fun _ _ _ h => h) (Or.inl ⟨by kernel_rfl, fun W hSW => by go_simp; try with_reducible rfl⟩) (by assumption) ?_
   try simp only [List.getElem_toArray, List.getElem_cons_succ, List.getElem_cons_zero]
   try go_frame
  refine tkE ?_
  refine Tks.out (l := [(11, some none), (12, some none), (13, some none), (14, some none), (15, some none), (16, some none)]) ?_
  iterate 6
   refine tkT (v := ?_) rfl (by kernel_rfl) (by kernel_rfl) (by kernel_rfl) (fun _ _ _ h => h) (Or.inl ⟨by kernel_rfl, fun W hSW => by go_simp; try with_reducible rfl⟩) (by assumption) ?_
   try simp only [List.getElem_toArray, List.getElem_cons_succ, List.getElem_cons_zero]
   try go_frame
  refine tkE ?_
  refine Tks.out (l := [(17, some (some (.bool false))), (18, some (some (.bool false))), (19, some (some (.bool false)))]) ?_
  iterate 3
   refine tkV rfl (by kernel_rfl) (by kernel_rfl) (by kernel_rfl) (fun _ _ _ h => h) (Or.inl ⟨by kernel_rfl, fun W hSW => by go_simp; try with_reducible rfl⟩) (by assumption) ?_
   try simp only [List.getElem_toArray, List.getElem_cons_succ, List.getElem_cons_zero]
   try go_frame
  refine tkE ?_
  refine Tks.out (l := [(20, some none), (21, some none), (22, some none), (23, some none), (24, some none), (25, some none)]) ?_
  iterate 6
   refine tkT (v := ?_) rfl (by kernel_rfl) (by kernel_rfl) (by kernel_rfl) (fun _ _ _ h => h) (Or.inl ⟨by kernel_rfl, fun W hSW => by go_simp; try with_reducible rfl⟩) (by assumption) ?_
   try simp only [List.getElem_toArray, List.getElem_cons_succ, List.getElem_cons_zero]
   try go_frame
  refine tkE ?_
  refine Tks.out (l := [(26, some (some (.bool false))), (27, some (some (.bool false)))]) ?_
  iterate 2
   refine tkV rfl (by kernel_rfl) (by kernel_rfl) (by kernel_rfl) (fun _ _ _ h => h) (Or.inl ⟨by kernel_rfl, fun W hSW => by go_simp; try with_reducible rfl⟩) (by assumption) ?_
   try simp only [List.getElem_toArray, List.getElem_cons_succ, List.getElem_cons_zero]
   try go_frame
  refine tkE ?_
  refine wpAnyH_done (by kernel_rfl) ?_ _
  obtain ⟨wd, hwd⟩ : ∃ wd, wd = w1.drew := ⟨_, rfl⟩
  have KD : Hid (Kept (fun _ => False) w1 wd) := by rw [hwd]; exact (Kept.refl _ w1).drew
  rw [← hwd]
  clear hwd
  have e13 := p13 wd KD.out
  go_wp2_with fail
  refine (HG.out _).mono ?_
  rintro e w2 ⟨rfl, hk2⟩
  have K2 := hid (KD.out.trans hk2)
  clear hk2 e13 KD
  go_upto_region 4 with fail
  have KB : Hid (Kept (fun _ => False) w1 (w2.alloc (.cells #[.int .i64 (dc.code : Int), .int .i64 (dc.session : Int), .string ⟨dc.data.toArray⟩] 82))) := K2.out.alloc _
  have B3 : Hid ((w2.alloc (.cells #[.int .i64 (dc.code : Int), .int .i64 (dc.session : Int), .string ⟨dc.data.toArray⟩] 82)).heap[w2.heap.size]? = some (.cells #[.int .i64 (dc.code : Int), .int .i64 (dc.session : Int), .string ⟨dc.data.toArray⟩] 82 (0, 0))) := heap_alloc_new w2 _
  generalize w2.alloc (.cells #[.int .i64 (dc.code : Int), .int .i64 (dc.session : Int), .string ⟨dc.data.toArray⟩] 82) = w3 at *
  generalize w2.heap.size = db at *
  clear p0 p1 p2 p3 p4 p5 p6 p7 p8 p9 p10 p11 p12 p13 r0 r1 r2 r3 r4 r5 r12 r13 r14 r15 r16 r17 r10 r11
  have hdl := (Array.getElem?_eq_some_iff.1 B3.out).1
  have q0 : ∀ W, Kept (fun _ => False) w3 W → W.cell? ⟨db, 0, none⟩ = some (.int .i64 (dc.code : Int)) := fun W hk => by simp [World.cell?, (hk.block db hdl (fun h => h)).trans B3.out]
  have q1 : ∀ W, Kept (fun _ => False) w3 W → W.cell? ⟨db, 1, none⟩ = some (.int .i64 (dc.session : Int)) := fun W hk => by simp [World.cell?, (hk.block db hdl (fun h => h)).trans B3.out]
  have q2 : ∀ W, Kept (fun _ => False) w3 W → W.cell? ⟨db, 2, none⟩ = some (.string ⟨dc.data.toArray⟩) := fun W hk => by simp [World.cell?, (hk.block db hdl (fun h => h)).trans B3.out]
  have r11 := fun W (hk : Kept (fun _ => False) w3 W) => (HC.out W (KB.out.trans hk)).c11
  refine wp_region_held_drew (S := Kept (fun _ => False) w3) (by kernel_rfl) ((Kept.refl _ w3).drew) (fun hSd => ?_)
  refine wpAnyH_take (i := 0) (v := ?_) rfl (by kernel_rfl) (by kernel_rfl) (by kernel_rfl) (fun _ _ _ h => h) (Or.inl ⟨by kernel_rfl, fun W hSW => by go_simp; try with_reducible rfl⟩) (by assumption) ?_
  try simp only [List.getElem_toArray, List.getElem_cons_zero]
  try go_frame
  refine Tks.out (l := [(1, some (some (.bool true))), (2, some (some (.bool true)))]) ?_
  iterate 2
   refine tkV rfl (by kernel_rfl) (by kernel_rfl) (by kernel_rfl) (fun _ _ _ h => h) (Or.inl ⟨by kernel_rfl, fun W hSW => by go_simp; try with_reducible rfl⟩) (by assumption) ?_
   try simp only [List.getElem_toArray, List.getElem_cons_succ, List.getElem_cons_zero]
   try go_frame
  refine tkE ?_
  refine Tks.out (l := [(3, none), (4, none), (5, none)]) ?_
  iterate 3
   refine tkS rfl (by kernel_rfl) (by kernel_rfl) (by kernel_rfl) (fun _ _ _ h => h) (Or.inr ⟨by kernel_rfl, rfl⟩) (by assumption) ?_
   try simp only [List.getElem_toArray, List.getElem_cons_succ, List.getElem_cons_zero]
   try go_frame
  refine tkE ?_
  refine Tks.out (l := [(6, some (some (.bool true))), (7, some (some (.bool true)))]) ?_
  iterate 2
   refine tkV rfl (by kernel_rfl) (by kernel_rfl) (by kernel_rfl) (fun _ _ _ h => h) (Or.inl ⟨by kernel_rfl, fun W hSW => by go_simp; try with_reducible rfl⟩) (by assumption) ?_
   try simp only [List.getElem_toArray, List.getElem_cons_succ, List.getElem_cons_zero]
   try go_frame
  refine tkE ?_
  refine Tks.out (l := [(8, none), (9, none), (10, none), (11, none), (12, none), (13, none), (14, none)]) ?_
  iterate 7
   refine tkS rfl (by kernel_rfl) (by kernel_rfl) (by kernel_rfl) (fun _ _ _ h => h) (Or.inr ⟨by kernel_rfl, rfl⟩) (by assumption) ?_
   try simp only [List.getElem_toArray, List.getElem_cons_succ, List.getElem_cons_zero]
   try go_frame
  refine tkE ?_
  refine wpAnyH_take (i := 15) (v := (.bool true)) rfl (by kernel_rfl) (by kernel_rfl) (by kernel_rfl) (fun _ _ _ h => h) (Or.inl ⟨by kernel_rfl, fun W hSW => by go_simp; try with_reducible rfl⟩) (by assumption) ?_
  try simp only [List.getElem_toArray, List.getElem_cons_succ, List.getElem_cons_zero]
  try go_frame
  refine wpAnyH_done (by kernel_rfl) ?_ _
  go_wp2
  go_ret2
  exact ⟨rfl, (K1.out.trans KB.out).drew⟩

set_option maxHeartbeats 4000000 in
set_option maxRecDepth 100000 in
theorem rData_code (b : Nat) (h : Hd) (hg : GoodD h) (dst src : List UInt8) (hdst : dst.length = 6) (hsrc : src.length = 6) (ty : Int) (x : ByteArray) (_hsz : x.size ≤ 1000000) (w : World) (H : HdIn w b h) (hst : h.state = 3) (hty : ty = 34916) (hc : src = h.ac) (hm : dst = h.mac) (dc : Dc) (E : Int) (hget : getDiscF x.data.toList = (dc, E)) (hE0 : E = 0) (hcd : ¬ dc.code = 0) :
    Calls Tryz.prog 14 #[.pointer (some ⟨b, 0, none⟩), frV ⟨dst, src, ty, x⟩] w fun e w' => e = .returned (.tuple #[.string ⟨#[]⟩, .bool false]) ∧ Kept (fun _ => False) w w' := by
  obtain ⟨x0, x1, x2, x3, x4, x5, hx⟩ := six_cells hg.mac
  obtain ⟨y0, y1, y2, y3, y4, y5, hy⟩ := six_cells hg.ac
  obtain ⟨d0, d1, d2, d3, d4, d5, hd⟩ := six_cells hdst
  obtain ⟨s0, s1, s2, s3, s4, s5, hs⟩ := six_cells hsrc
  have hfv : frV ⟨dst, src, ty, x⟩ = .agg #[.int .u8 d0, .int .u8 d1, .int .u8 d2, .int .u8 d3, .int .u8 d4, .int .u8 d5, .int .u8 s0, .int .u8 s1, .int .u8 s2, .int .u8 s3, .int .u8 s4, .int .u8 s5, .int .i64 ty, .string x] := by unfold frV frList; simp only []; rw [hd, hs]; rfl
  rw [hfv]
  have hE := mac_eq dst h.mac hdst hg.mac
  rw [hd, hx] at hE
  have hE3 := mac_eq src h.ac hsrc hg.ac
  rw [hs, hy] at hE3
  obtain ⟨w1, hw1⟩ : ∃ w1, w1 = w.alloc (.cells #[.int .u8 d0, .int .u8 d1, .int .u8 d2, .int .u8 d3, .int .u8 d4, .int .u8 d5, .int .u8 s0, .int .u8 s1, .int .u8 s2, .int .u8 s3, .int .u8 s4, .int .u8 s5, .int .i64 ty, .string x] 55) := ⟨_, rfl⟩
  have Hw1 := hid hw1
  have K1 : Hid (Kept (fun _ => False) w w1) := by rw [hw1]; exact (Kept.refl _ w).alloc _
  obtain ⟨fb, hfb⟩ : ∃ fb, fb = w.heap.size := ⟨_, rfl⟩
  have O1 : Hid (Own14 w1 fb #[.int .u8 d0, .int .u8 d1, .int .u8 d2, .int .u8 d3, .int .u8 d4, .int .u8 d5, .int .u8 s0, .int .u8 s1, .int .u8 s2, .int .u8 s3, .int .u8 s4, .int .u8 s5, .int .i64 ty, .string x]) := by rw [hw1, hfb]; exact own14_new w _
  have HFB := hid hfb
  have HC := hid (fun W (hk : Kept (fun _ => False) w1 W) => (H.kept (K1.out.trans hk) (fun h => h)).cells hx hy)
  obtain ⟨p0, p1, p2, p3, p4, p5, p6, p7, p8, p9, p10, p11, p12, p13⟩ := cells14 (C := fun W => Kept (fun _ => False) w1 W) (X := fb) (fun W hk => O1.out.kept (hk))
  have r0 := fun W (hk : Kept (fun _ => False) w1 W) => (HC.out W (hk)).c0
  have r1 := fun W (hk : Kept (fun _ => False) w1 W) => (HC.out W (hk)).c1
  have r2 := fun W (hk : Kept (fun _ => False) w1 W) => (HC.out W (hk)).c2
  have r3 := fun W (hk : Kept (fun _ => False) w1 W) => (HC.out W (hk)).c3
  have r4 := fun W (hk : Kept (fun _ => False) w1 W) => (HC.out W (hk)).c4
  have r5 := fun W (hk : Kept (fun _ => False) w1 W) => (HC.out W (hk)).c5
  have r12 := fun W (hk : Kept (fun _ => False) w1 W) => (HC.out W (hk)).c12
  have r13 := fun W (hk : Kept (fun _ => False) w1 W) => (HC.out W (hk)).c13
  have r14 := fun W (hk : Kept (fun _ => False) w1 W) => (HC.out W (hk)).c14
  have r15 := fun W (hk : Kept (fun _ => False) w1 W) => (HC.out W (hk)).c15
  have r16 := fun W (hk : Kept (fun _ => False) w1 W) => (HC.out W (hk)).c16
  have r17 := fun W (hk : Kept (fun _ => False) w1 W) => (HC.out W (hk)).c17
  have r10 := fun W (hk : Kept (fun _ => False) w1 W) => (HC.out W (hk)).c10
  have r11 := fun W (hk : Kept (fun _ => False) w1 W) => (HC.out W (hk)).c11
  rw [decide_eq_true hc] at hE3
  rw [decide_eq_true hm] at hE
  have n3 : (h.state != 3) = false := by simpa using hst
  have nt : (ty != 34916) = false := by simpa using hty
  have HG := hid (fun W => refGet_any x (by omega) W)
  rw [hget] at HG
  unfold discV at HG
  simp only at HG
  have m0 : (E != 0) = false := by simpa using hE0
  have m1 : ((dc.code : Int) != 0) = true := by simp; omega
  clear hst hty hc hm hget hE0 hcd
  clear hfv hw1 hd hs H hx hy hdst hsrc hg hfb
  go_enter Tryz.func14, Tryz.ntmps14
  go_upto_region 1 with fail
  rw [← Hw1.out, ← HFB.out]
  refine wp_region_held_drew (S := Kept (fun _ => False) w1) (by kernel_rfl) ((Kept.refl _ w1).drew) (fun hSd => ?_)
  refine Tks.out (l := [(0, some none), (1, some none), (2, some none), (3, some none)]) ?_
  iterate 4
   refine tkT (v := ?_) rfl (by kernel_rfl) (by kernel_rfl) (by kernel_rfl) (fun _ _ _ h => h) (Or.inl ⟨by kernel_rfl, fun W hSW => by go_simp; try with_reducible rfl⟩) (by assumption) ?_
   try simp only [List.getElem_toArray, List.getElem_cons_succ, List.getElem_cons_zero]
   try go_frame
  refine tkE ?_
  refine Tks.out (l := [(4, some (some (.bool false))), (5, some (some (.bool false)))]) ?_
  iterate 2
   refine tkV rfl (by kernel_rfl) (by kernel_rfl) (by kernel_rfl) (fun _ _ _ h => h) (Or.inl ⟨by kernel_rfl, fun W hSW => by go_simp; try with_reducible rfl⟩) (by assumption) ?_
   try simp only [List.getElem_toArray, List.getElem_cons_succ, List.getElem_cons_zero]
   try go_frame
  refine tkE ?_
  refine Tks.out (l := [(6, some none), (7, some none)]) ?_
  iterate 2
   refine tkT (v := ?_) rfl (by kernel_rfl) (by kernel_rfl) (by kernel_rfl) (fun _ _ _ h => h) (Or.inl ⟨by kernel_rfl, fun W hSW => by go_simp; try with_reducible rfl⟩) (by assumption) ?_
   try simp only [List.getElem_toArray, List.getElem_cons_succ, List.getElem_cons_zero]
   try go_frame
  refine tkE ?_
  refine Tks.out (l := [(8, some (some (.bool false))), (9, some (some (.bool false))), (10, some (some (.bool false)))]) ?_
  iterate 3
   refine tkV rfl (by kernel_rfl) (by kernel_rfl) (by kernel_rfl) (fun _ _ _ h => h) (Or.inl ⟨by kernel_rfl, fun W hSW => by go_simp; try with_reducible rfl⟩) (by assumption) ?_
   try simp only [List.getElem_toArray, List.getElem_cons_succ, List.getElem_cons_zero]
   try go_frame
  refine tkE ?_
  refine Tks.out (l := [(11, some none), (12, some none), (13, some none), (14, some none), (15, some none), (16, some none)]) ?_
  iterate 6
   refine tkT (v := ?_) rfl (by kernel_rfl) (by kernel_rfl) (by kernel_rfl) (fun _ _ _ h => h) (Or.inl ⟨by kernel_rfl, fun W hSW => by go_simp; try with_reducible rfl⟩) (by assumption) ?_
   try simp only [List.getElem_toArray, List.getElem_cons_succ, List.getElem_cons_zero]
   try go_frame
  refine tkE ?_
  refine Tks.out (l := [(17, some (some (.bool false))), (18, some (some (.bool false))), (19, some (some (.bool false)))]) ?_
  iterate 3
   refine tkV rfl (by kernel_rfl) (by kernel_rfl) (by kernel_rfl) (fun _ _ _ h => h) (Or.inl ⟨by kernel_rfl, fun W hSW => by go_simp; try with_reducible rfl⟩) (by assumption) ?_
   try simp only [List.getElem_toArray, List.getElem_cons_succ, List.getElem_cons_zero]
   try go_frame
  refine tkE ?_
  refine Tks.out (l := [(20, some none), (21, some none), (22, some none), (23, some none), (24, some none), (25, some none)]) ?_
  iterate 6
   refine tkT (v := ?_) rfl (by kernel_rfl) (by kernel_rfl) (by kernel_rfl) (fun _ _ _ h => h) (Or.inl ⟨by kernel_rfl, fun W hSW => by go_simp; try with_reducible rfl⟩) (by assumption) ?_
   try simp only [List.getElem_toArray, List.getElem_cons_succ, List.getElem_cons_zero]
   try go_frame
  refine tkE ?_
  refine Tks.out (l := [(26, some (some (.bool false))), (27, some (some (.bool false)))]) ?_
  iterate 2
   refine tkV rfl (by kernel_rfl) (by kernel_rfl) (by kernel_rfl) (fun _ _ _ h => h) (Or.inl ⟨by kernel_rfl, fun W hSW => by go_simp; try with_reducible rfl⟩) (by assumption) ?_
   try simp only [List.getElem_toArray, List.getElem_cons_succ, List.getElem_cons_zero]
   try go_frame
  refine tkE ?_
  refine wpAnyH_done (by kernel_rfl) ?_ _
  obtain ⟨wd, hwd⟩ : ∃ wd, wd = w1.drew := ⟨_, rfl⟩
  have KD : Hid (Kept (fun _ => False) w1 wd) := by rw [hwd]; exact (Kept.refl _ w1).drew
  rw [← hwd]
  clear hwd
  have e13 := p13 wd KD.out
  go_wp2_with fail
  refine (HG.out _).mono ?_
  rintro e w2 ⟨rfl, hk2⟩
  have K2 := hid (KD.out.trans hk2)
  clear hk2 e13 KD
  go_upto_region 4 with fail
  have KB : Hid (Kept (fun _ => False) w1 (w2.alloc (.cells #[.int .i64 (dc.code : Int), .int .i64 (dc.session : Int), .string ⟨dc.data.toArray⟩] 82))) := K2.out.alloc _
  have B3 : Hid ((w2.alloc (.cells #[.int .i64 (dc.code : Int), .int .i64 (dc.session : Int), .string ⟨dc.data.toArray⟩] 82)).heap[w2.heap.size]? = some (.cells #[.int .i64 (dc.code : Int), .int .i64 (dc.session : Int), .string ⟨dc.data.toArray⟩] 82 (0, 0))) := heap_alloc_new w2 _
  generalize w2.alloc (.cells #[.int .i64 (dc.code : Int), .int .i64 (dc.session : Int), .string ⟨dc.data.toArray⟩] 82) = w3 at *
  generalize w2.heap.size = db at *
  clear p0 p1 p2 p3 p4 p5 p6 p7 p8 p9 p10 p11 p12 p13 r0 r1 r2 r3 r4 r5 r12 r13 r14 r15 r16 r17 r10 r11
  have hdl := (Array.getElem?_eq_some_iff.1 B3.out).1
  have q0 : ∀ W, Kept (fun _ => False) w3 W → W.cell? ⟨db, 0, none⟩ = some (.int .i64 (dc.code : Int)) := fun W hk => by simp [World.cell?, (hk.block db hdl (fun h => h)).trans B3.out]
  have q1 : ∀ W, Kept (fun _ => False) w3 W → W.cell? ⟨db, 1, none⟩ = some (.int .i64 (dc.session : Int)) := fun W hk => by simp [World.cell?, (hk.block db hdl (fun h => h)).trans B3.out]
  have q2 : ∀ W, Kept (fun _ => False) w3 W → W.cell? ⟨db, 2, none⟩ = some (.string ⟨dc.data.toArray⟩) := fun W hk => by simp [World.cell?, (hk.block db hdl (fun h => h)).trans B3.out]
  have r11 := fun W (hk : Kept (fun _ => False) w3 W) => (HC.out W (KB.out.trans hk)).c11
  refine wp_region_held_drew (S := Kept (fun _ => False) w3) (by kernel_rfl) ((Kept.refl _ w3).drew) (fun hSd => ?_)
  refine wpAnyH_take (i := 0) (v := ?_) rfl (by kernel_rfl) (by kernel_rfl) (by kernel_rfl) (fun _ _ _ h => h) (Or.inl ⟨by kernel_rfl, fun W hSW => by go_simp; try with_reducible rfl⟩) (by assumption) ?_
  try simp only [List.getElem_toArray, List.getElem_cons_zero]
  try go_frame
  refine Tks.out (l := [(1, some (some (.bool false))), (2, some (some (.bool false)))]) ?_
  iterate 2
   refine tkV rfl (by kernel_rfl) (by kernel_rfl) (by kernel_rfl) (fun _ _ _ h => h) (Or.inl ⟨by kernel_rfl, fun W hSW => by go_simp; try with_reducible rfl⟩) (by assumption) ?_
   try simp only [List.getElem_toArray, List.getElem_cons_succ, List.getElem_cons_zero]
   try go_frame
  refine tkE ?_
  refine Tks.out (l := [(3, some none), (4, some none)]) ?_
  iterate 2
   refine tkT (v := ?_) rfl (by kernel_rfl) (by kernel_rfl) (by kernel_rfl) (fun _ _ _ h => h) (Or.inl ⟨by kernel_rfl, fun W hSW => by go_simp; try with_reducible rfl⟩) (by assumption) ?_
   try simp only [List.getElem_toArray, List.getElem_cons_succ, List.getElem_cons_zero]
   try go_frame
  refine tkE ?_
  refine Tks.out (l := [(5, some (some (.bool true))), (6, some (some (.bool true))), (7, some (some (.bool true)))]) ?_
  iterate 3
   refine tkV rfl (by kernel_rfl) (by kernel_rfl) (by kernel_rfl) (fun _ _ _ h => h) (Or.inl ⟨by kernel_rfl, fun W hSW => by go_simp; try with_reducible rfl⟩) (by assumption) ?_
   try simp only [List.getElem_toArray, List.getElem_cons_succ, List.getElem_cons_zero]
   try go_frame
  refine tkE ?_
  refine Tks.out (l := [(8, none), (9, none), (10, none), (11, none), (12, none), (13, none), (14, none)]) ?_
  iterate 7
   refine tkS rfl (by kernel_rfl) (by kernel_rfl) (by kernel_rfl) (fun _ _ _ h => h) (Or.inr ⟨by kernel_rfl, rfl⟩) (by assumption) ?_
   try simp only [List.getElem_toArray, List.getElem_cons_succ, List.getElem_cons_zero]
   try go_frame
  refine tkE ?_
  refine wpAnyH_take (i := 15) (v := (.bool true)) rfl (by kernel_rfl) (by kernel_rfl) (by kernel_rfl) (fun _ _ _ h => h) (Or.inl ⟨by kernel_rfl, fun W hSW => by go_simp; try with_reducible rfl⟩) (by assumption) ?_
  try simp only [List.getElem_toArray, List.getElem_cons_succ, List.getElem_cons_zero]
  try go_frame
  refine wpAnyH_done (by kernel_rfl) ?_ _
  go_wp2
  go_ret2
  exact ⟨rfl, (K1.out.trans KB.out).drew⟩

set_option maxHeartbeats 4000000 in
set_option maxRecDepth 100000 in
theorem rData_ses (b : Nat) (h : Hd) (hg : GoodD h) (dst src : List UInt8) (hdst : dst.length = 6) (hsrc : src.length = 6) (ty : Int) (x : ByteArray) (_hsz : x.size ≤ 1000000) (w : World) (H : HdIn w b h) (hst : h.state = 3) (hty : ty = 34916) (hc : src = h.ac) (hm : dst = h.mac) (dc : Dc) (E : Int) (hget : getDiscF x.data.toList = (dc, E)) (hE0 : E = 0) (hcd : dc.code = 0) (hss : ¬ (dc.session : Int) = h.session) :
    Calls Tryz.prog 14 #[.pointer (some ⟨b, 0, none⟩), frV ⟨dst, src, ty, x⟩] w fun e w' => e = .returned (.tuple #[.string ⟨#[]⟩, .bool false]) ∧ Kept (fun _ => False) w w' := by
  obtain ⟨x0, x1, x2, x3, x4, x5, hx⟩ := six_cells hg.mac
  obtain ⟨y0, y1, y2, y3, y4, y5, hy⟩ := six_cells hg.ac
  obtain ⟨d0, d1, d2, d3, d4, d5, hd⟩ := six_cells hdst
  obtain ⟨s0, s1, s2, s3, s4, s5, hs⟩ := six_cells hsrc
  have hfv : frV ⟨dst, src, ty, x⟩ = .agg #[.int .u8 d0, .int .u8 d1, .int .u8 d2, .int .u8 d3, .int .u8 d4, .int .u8 d5, .int .u8 s0, .int .u8 s1, .int .u8 s2, .int .u8 s3, .int .u8 s4, .int .u8 s5, .int .i64 ty, .string x] := by unfold frV frList; simp only []; rw [hd, hs]; rfl
  rw [hfv]
  have hE := mac_eq dst h.mac hdst hg.mac
  rw [hd, hx] at hE
  have hE3 := mac_eq src h.ac hsrc hg.ac
  rw [hs, hy] at hE3
  obtain ⟨w1, hw1⟩ : ∃ w1, w1 = w.alloc (.cells #[.int .u8 d0, .int .u8 d1, .int .u8 d2, .int .u8 d3, .int .u8 d4, .int .u8 d5, .int .u8 s0, .int .u8 s1, .int .u8 s2, .int .u8 s3, .int .u8 s4, .int .u8 s5, .int .i64 ty, .string x] 55) := ⟨_, rfl⟩
  have Hw1 := hid hw1
  have K1 : Hid (Kept (fun _ => False) w w1) := by rw [hw1]; exact (Kept.refl _ w).alloc _
  obtain ⟨fb, hfb⟩ : ∃ fb, fb = w.heap.size := ⟨_, rfl⟩
  have O1 : Hid (Own14 w1 fb #[.int .u8 d0, .int .u8 d1, .int .u8 d2, .int .u8 d3, .int .u8 d4, .int .u8 d5, .int .u8 s0, .int .u8 s1, .int .u8 s2, .int .u8 s3, .int .u8 s4, .int .u8 s5, .int .i64 ty, .string x]) := by rw [hw1, hfb]; exact own14_new w _
  have HFB := hid hfb
  have HC := hid (fun W (hk : Kept (fun _ => False) w1 W) => (H.kept (K1.out.trans hk) (fun h => h)).cells hx hy)
  obtain ⟨p0, p1, p2, p3, p4, p5, p6, p7, p8, p9, p10, p11, p12, p13⟩ := cells14 (C := fun W => Kept (fun _ => False) w1 W) (X := fb) (fun W hk => O1.out.kept (hk))
  have r0 := fun W (hk : Kept (fun _ => False) w1 W) => (HC.out W (hk)).c0
  have r1 := fun W (hk : Kept (fun _ => False) w1 W) => (HC.out W (hk)).c1
  have r2 := fun W (hk : Kept (fun _ => False) w1 W) => (HC.out W (hk)).c2
  have r3 := fun W (hk : Kept (fun _ => False) w1 W) => (HC.out W (hk)).c3
  have r4 := fun W (hk : Kept (fun _ => False) w1 W) => (HC.out W (hk)).c4
  have r5 := fun W (hk : Kept (fun _ => False) w1 W) => (HC.out W (hk)).c5
  have r12 := fun W (hk : Kept (fun _ => False) w1 W) => (HC.out W (hk)).c12
  have r13 := fun W (hk : Kept (fun _ => False) w1 W) => (HC.out W (hk)).c13
  have r14 := fun W (hk : Kept (fun _ => False) w1 W) => (HC.out W (hk)).c14
  have r15 := fun W (hk : Kept (fun _ => False) w1 W) => (HC.out W (hk)).c15
  have r16 := fun W (hk : Kept (fun _ => False) w1 W) => (HC.out W (hk)).c16
  have r17 := fun W (hk : Kept (fun _ => False) w1 W) => (HC.out W (hk)).c17
  have r10 := fun W (hk : Kept (fun _ => False) w1 W) => (HC.out W (hk)).c10
  have r11 := fun W (hk : Kept (fun _ => False) w1 W) => (HC.out W (hk)).c11
  rw [decide_eq_true hc] at hE3
  rw [decide_eq_true hm] at hE
  have n3 : (h.state != 3) = false := by simpa using hst
  have nt : (ty != 34916) = false := by simpa using hty
  have HG := hid (fun W => refGet_any x (by omega) W)
  rw [hget] at HG
  unfold discV at HG
  simp only at HG
  have m0 : (E != 0) = false := by simpa using hE0
  have m1 : ((dc.code : Int) != 0) = false := by simp; omega
  have m2 : ((dc.session : Int) != h.session) = true := by simpa using hss
  clear hst hty hc hm hget hE0 hcd hss
  clear hfv hw1 hd hs H hx hy hdst hsrc hg hfb
  go_enter Tryz.func14, Tryz.ntmps14
  go_upto_region 1 with fail
  rw [← Hw1.out, ← HFB.out]
  refine wp_region_held_drew (S := Kept (fun _ => False) w1) (by kernel_rfl) ((Kept.refl _ w1).drew) (fun hSd => ?_)
  refine Tks.out (l := [(0, some none), (1, some none), (2, some none), (3, some none)]) ?_
  iterate 4
   refine tkT (v := ?_) rfl (by kernel_rfl) (by kernel_rfl) (by kernel_rfl) (fun _ _ _ h => h) (Or.inl ⟨by kernel_rfl, fun W hSW => by go_simp; try with_reducible rfl⟩) (by assumption) ?_
   try simp only [List.getElem_toArray, List.getElem_cons_succ, List.getElem_cons_zero]
   try go_frame
  refine tkE ?_
  refine Tks.out (l := [(4, some (some (.bool false))), (5, some (some (.bool false)))]) ?_
  iterate 2
   refine tkV rfl (by kernel_rfl) (by kernel_rfl) (by kernel_rfl) (fun _ _ _ h => h) (Or.inl ⟨by kernel_rfl, fun W hSW => by go_simp; try with_reducible rfl⟩) (by assumption) ?_
   try simp only [List.getElem_toArray, List.getElem_cons_succ, List.getElem_cons_zero]
   try go_frame
  refine tkE ?_
  refine Tks.out (l := [(6, some none), (7, some none)]) ?_
  iterate 2
   refine tkT (v := ?_) rfl (by kernel_rfl) (by kernel_rfl) (by kernel_rfl) (fun _ _ _ h => h) (Or.inl ⟨by kernel_rfl, fun W hSW => by go_simp; try with_reducible rfl⟩) (by assumption) ?_
   try simp only [List.getElem_toArray, List.getElem_cons_succ, List.getElem_cons_zero]
   try go_frame
  refine tkE ?_
  refine Tks.out (l := [(8, some (some (.bool false))), (9, some (some (.bool false))), (10, some (some (.bool false)))]) ?_
  iterate 3
   refine tkV rfl (by kernel_rfl) (by kernel_rfl) (by kernel_rfl) (fun _ _ _ h => h) (Or.inl ⟨by kernel_rfl, fun W hSW => by go_simp; try with_reducible rfl⟩) (by assumption) ?_
   try simp only [List.getElem_toArray, List.getElem_cons_succ, List.getElem_cons_zero]
   try go_frame
  refine tkE ?_
  refine Tks.out (l := [(11, some none), (12, some none), (13, some none), (14, some none), (15, some none), (16, some none)]) ?_
  iterate 6
   refine tkT (v := ?_) rfl (by kernel_rfl) (by kernel_rfl) (by kernel_rfl) (fun _ _ _ h => h) (Or.inl ⟨by kernel_rfl, fun W hSW => by go_simp; try with_reducible rfl⟩) (by assumption) ?_
   try simp only [List.getElem_toArray, List.getElem_cons_succ, List.getElem_cons_zero]
   try go_frame
  refine tkE ?_
  refine Tks.out (l := [(17, some (some (.bool false))), (18, some (some (.bool false))), (19, some (some (.bool false)))]) ?_
  iterate 3
   refine tkV rfl (by kernel_rfl) (by kernel_rfl) (by kernel_rfl) (fun _ _ _ h => h) (Or.inl ⟨by kernel_rfl, fun W hSW => by go_simp; try with_reducible rfl⟩) (by assumption) ?_
   try simp only [List.getElem_toArray, List.getElem_cons_succ, List.getElem_cons_zero]
   try go_frame
  refine tkE ?_
  refine Tks.out (l := [(20, some none), (21, some none), (22, some none), (23, some none), (24, some none), (25, some none)]) ?_
  iterate 6
   refine tkT (v := ?_) rfl (by kernel_rfl) (by kernel_rfl) (by kernel_rfl) (fun _ _ _ h => h) (Or.inl ⟨by kernel_rfl, fun W hSW => by go_simp; try with_reducible rfl⟩) (by assumption) ?_
   try simp only [List.getElem_toArray, List.getElem_cons_succ, List.getElem_cons_zero]
   try go_frame
  refine tkE ?_
  refine Tks.out (l := [(26, some (some (.bool false))), (27, some (some (.bool false)))]) ?_
  iterate 2
   refine tkV rfl (by kernel_rfl) (by kernel_rfl) (by kernel_rfl) (fun _ _ _ h => h) (Or.inl ⟨by kernel_rfl, fun W hSW => by go_simp; try with_reducible rfl⟩) (by assumption) ?_
   try simp only [List.getElem_toArray, List.getElem_cons_succ, List.getElem_cons_zero]
   try go_frame
  refine tkE ?_
  refine wpAnyH_done (by kernel_rfl) ?_ _
  obtain ⟨wd, hwd⟩ : ∃ wd, wd = w1.drew := ⟨_, rfl⟩
  have KD : Hid (Kept (fun _ => False) w1 wd) := by rw [hwd]; exact (Kept.refl _ w1).drew
  rw [← hwd]
  clear hwd
  have e13 := p13 wd KD.out
  go_wp2_with fail
  refine (HG.out _).mono ?_
  rintro e w2 ⟨rfl, hk2⟩
  have K2 := hid (KD.out.trans hk2)
  clear hk2 e13 KD
  go_upto_region 4 with fail
  have KB : Hid (Kept (fun _ => False) w1 (w2.alloc (.cells #[.int .i64 (dc.code : Int), .int .i64 (dc.session : Int), .string ⟨dc.data.toArray⟩] 82))) := K2.out.alloc _
  have B3 : Hid ((w2.alloc (.cells #[.int .i64 (dc.code : Int), .int .i64 (dc.session : Int), .string ⟨dc.data.toArray⟩] 82)).heap[w2.heap.size]? = some (.cells #[.int .i64 (dc.code : Int), .int .i64 (dc.session : Int), .string ⟨dc.data.toArray⟩] 82 (0, 0))) := heap_alloc_new w2 _
  generalize w2.alloc (.cells #[.int .i64 (dc.code : Int), .int .i64 (dc.session : Int), .string ⟨dc.data.toArray⟩] 82) = w3 at *
  generalize w2.heap.size = db at *
  clear p0 p1 p2 p3 p4 p5 p6 p7 p8 p9 p10 p11 p12 p13 r0 r1 r2 r3 r4 r5 r12 r13 r14 r15 r16 r17 r10 r11
  have hdl := (Array.getElem?_eq_some_iff.1 B3.out).1
  have q0 : ∀ W, Kept (fun _ => False) w3 W → W.cell? ⟨db, 0, none⟩ = some (.int .i64 (dc.code : Int)) := fun W hk => by simp [World.cell?, (hk.block db hdl (fun h => h)).trans B3.out]
  have q1 : ∀ W, Kept (fun _ => False) w3 W → W.cell? ⟨db, 1, none⟩ = some (.int .i64 (dc.session : Int)) := fun W hk => by simp [World.cell?, (hk.block db hdl (fun h => h)).trans B3.out]
  have q2 : ∀ W, Kept (fun _ => False) w3 W → W.cell? ⟨db, 2, none⟩ = some (.string ⟨dc.data.toArray⟩) := fun W hk => by simp [World.cell?, (hk.block db hdl (fun h => h)).trans B3.out]
  have r11 := fun W (hk : Kept (fun _ => False) w3 W) => (HC.out W (KB.out.trans hk)).c11
  refine wp_region_held_drew (S := Kept (fun _ => False) w3) (by kernel_rfl) ((Kept.refl _ w3).drew) (fun hSd => ?_)
  refine wpAnyH_take (i := 0) (v := ?_) rfl (by kernel_rfl) (by kernel_rfl) (by kernel_rfl) (fun _ _ _ h => h) (Or.inl ⟨by kernel_rfl, fun W hSW => by go_simp; try with_reducible rfl⟩) (by assumption) ?_
  try simp only [List.getElem_toArray, List.getElem_cons_zero]
  try go_frame
  refine Tks.out (l := [(1, some (some (.bool false))), (2, some (some (.bool false)))]) ?_
  iterate 2
   refine tkV rfl (by kernel_rfl) (by kernel_rfl) (by kernel_rfl) (fun _ _ _ h => h) (Or.inl ⟨by kernel_rfl, fun W hSW => by go_simp; try with_reducible rfl⟩) (by assumption) ?_
   try simp only [List.getElem_toArray, List.getElem_cons_succ, List.getElem_cons_zero]
   try go_frame
  refine tkE ?_
  refine Tks.out (l := [(3, some none), (4, some none)]) ?_
  iterate 2
   refine tkT (v := ?_) rfl (by kernel_rfl) (by kernel_rfl) (by kernel_rfl) (fun _ _ _ h => h) (Or.inl ⟨by kernel_rfl, fun W hSW => by go_simp; try with_reducible rfl⟩) (by assumption) ?_
   try simp only [List.getElem_toArray, List.getElem_cons_succ, List.getElem_cons_zero]
   try go_frame
  refine tkE ?_
  refine Tks.out (l := [(5, some (some (.bool false))), (6, some (some (.bool false))), (7, some (some (.bool false)))]) ?_
  iterate 3
   refine tkV rfl (by kernel_rfl) (by kernel_rfl) (by kernel_rfl) (fun _ _ _ h => h) (Or.inl ⟨by kernel_rfl, fun W hSW => by go_simp; try with_reducible rfl⟩) (by assumption) ?_
   try simp only [List.getElem_toArray, List.getElem_cons_succ, List.getElem_cons_zero]
   try go_frame
  refine tkE ?_
  refine Tks.out (l := [(8, some none), (9, some none), (10, some none), (11, some none), (12, some none), (13, some none)]) ?_
  iterate 6
   refine tkT (v := ?_) rfl (by kernel_rfl) (by kernel_rfl) (by kernel_rfl) (fun _ _ _ h => h) (Or.inl ⟨by kernel_rfl, fun W hSW => by go_simp; try with_reducible rfl⟩) (by assumption) ?_
   try simp only [List.getElem_toArray, List.getElem_cons_succ, List.getElem_cons_zero]
   try go_frame
  refine tkE ?_
  refine Tks.out (l := [(14, some (some (.bool true))), (15, some (some (.bool true)))]) ?_
  iterate 2
   refine tkV rfl (by kernel_rfl) (by kernel_rfl) (by kernel_rfl) (fun _ _ _ h => h) (Or.inl ⟨by kernel_rfl, fun W hSW => by go_simp; try with_reducible rfl⟩) (by assumption) ?_
   try simp only [List.getElem_toArray, List.getElem_cons_succ, List.getElem_cons_zero]
   try go_frame
  refine tkE ?_
  refine wpAnyH_done (by kernel_rfl) ?_ _
  go_wp2
  go_ret2
  exact ⟨rfl, (K1.out.trans KB.out).drew⟩

set_option maxHeartbeats 4000000 in
set_option maxRecDepth 100000 in
theorem rData_good (b : Nat) (h : Hd) (hg : GoodD h) (dst src : List UInt8) (hdst : dst.length = 6) (hsrc : src.length = 6) (ty : Int) (x : ByteArray) (_hsz : x.size ≤ 1000000) (w : World) (H : HdIn w b h) (hst : h.state = 3) (hty : ty = 34916) (hc : src = h.ac) (hm : dst = h.mac) (dc : Dc) (E : Int) (hget : getDiscF x.data.toList = (dc, E)) (hE0 : E = 0) (hcd : dc.code = 0) (hss : (dc.session : Int) = h.session) :
    Calls Tryz.prog 14 #[.pointer (some ⟨b, 0, none⟩), frV ⟨dst, src, ty, x⟩] w fun e w' => e = .returned (.tuple #[.string ⟨dc.data.toArray⟩, .bool true]) ∧ Kept (fun _ => False) w w' := by
  obtain ⟨x0, x1, x2, x3, x4, x5, hx⟩ := six_cells hg.mac
  obtain ⟨y0, y1, y2, y3, y4, y5, hy⟩ := six_cells hg.ac
  obtain ⟨d0, d1, d2, d3, d4, d5, hd⟩ := six_cells hdst
  obtain ⟨s0, s1, s2, s3, s4, s5, hs⟩ := six_cells hsrc
  have hfv : frV ⟨dst, src, ty, x⟩ = .agg #[.int .u8 d0, .int .u8 d1, .int .u8 d2, .int .u8 d3, .int .u8 d4, .int .u8 d5, .int .u8 s0, .int .u8 s1, .int .u8 s2, .int .u8 s3, .int .u8 s4, .int .u8 s5, .int .i64 ty, .string x] := by unfold frV frList; simp only []; rw [hd, hs]; rfl
  rw [hfv]
  have hE := mac_eq dst h.mac hdst hg.mac
  rw [hd, hx] at hE
  have hE3 := mac_eq src h.ac hsrc hg.ac
  rw [hs, hy] at hE3
  obtain ⟨w1, hw1⟩ : ∃ w1, w1 = w.alloc (.cells #[.int .u8 d0, .int .u8 d1, .int .u8 d2, .int .u8 d3, .int .u8 d4, .int .u8 d5, .int .u8 s0, .int .u8 s1, .int .u8 s2, .int .u8 s3, .int .u8 s4, .int .u8 s5, .int .i64 ty, .string x] 55) := ⟨_, rfl⟩
  have Hw1 := hid hw1
  have K1 : Hid (Kept (fun _ => False) w w1) := by rw [hw1]; exact (Kept.refl _ w).alloc _
  obtain ⟨fb, hfb⟩ : ∃ fb, fb = w.heap.size := ⟨_, rfl⟩
  have O1 : Hid (Own14 w1 fb #[.int .u8 d0, .int .u8 d1, .int .u8 d2, .int .u8 d3, .int .u8 d4, .int .u8 d5, .int .u8 s0, .int .u8 s1, .int .u8 s2, .int .u8 s3, .int .u8 s4, .int .u8 s5, .int .i64 ty, .string x]) := by rw [hw1, hfb]; exact own14_new w _
  have HFB := hid hfb
  have HC := hid (fun W (hk : Kept (fun _ => False) w1 W) => (H.kept (K1.out.trans hk) (fun h => h)).cells hx hy)
  obtain ⟨p0, p1, p2, p3, p4, p5, p6, p7, p8, p9, p10, p11, p12, p13⟩ := cells14 (C := fun W => Kept (fun _ => False) w1 W) (X := fb) (fun W hk => O1.out.kept (hk))
  have r0 := fun W (hk : Kept (fun _ => False) w1 W) => (HC.out W (hk)).c0
  have r1 := fun W (hk : Kept (fun _ => False) w1 W) => (HC.out W (hk)).c1
  have r2 := fun W (hk : Kept (fun _ => False) w1 W) => (HC.out W (hk)).c2
  have r3 := fun W (hk : Kept (fun _ => False) w1 W) => (HC.out W (hk)).c3
  have r4 := fun W (hk : Kept (fun _ => False) w1 W) => (HC.out W (hk)).c4
  have r5 := fun W (hk : Kept (fun _ => False) w1 W) => (HC.out W (hk)).c5
  have r12 := fun W (hk : Kept (fun _ => False) w1 W) => (HC.out W (hk)).c12
  have r13 := fun W (hk : Kept (fun _ => False) w1 W) => (HC.out W (hk)).c13
  have r14 := fun W (hk : Kept (fun _ => False) w1 W) => (HC.out W (hk)).c14
  have r15 := fun W (hk : Kept (fun _ => False) w1 W) => (HC.out W (hk)).c15
  have r16 := fun W (hk : Kept (fun _ => False) w1 W) => (HC.out W (hk)).c16
  have r17 := fun W (hk : Kept (fun _ => False) w1 W) => (HC.out W (hk)).c17
  have r10 := fun W (hk : Kept (fun _ => False) w1 W) => (HC.out W (hk)).c10
  have r11 := fun W (hk : Kept (fun _ => False) w1 W) => (HC.out W (hk)).c11
  rw [decide_eq_true hc] at hE3
  rw [decide_eq_true hm] at hE
  have n3 : (h.state != 3) = false := by simpa using hst
  have nt : (ty != 34916) = false := by simpa using hty
  have HG := hid (fun W => refGet_any x (by omega) W)
  rw [hget] at HG
  unfold discV at HG
  simp only at HG
  have m0 : (E != 0) = false := by simpa using hE0
  have m1 : ((dc.code : Int) != 0) = false := by simp; omega
  have m2 : ((dc.session : Int) != h.session) = false := by simpa using hss
  clear hst hty hc hm hget hE0 hcd hss
  clear hfv hw1 hd hs H hx hy hdst hsrc hg hfb
  go_enter Tryz.func14, Tryz.ntmps14
  go_upto_region 1 with fail
  rw [← Hw1.out, ← HFB.out]
  refine wp_region_held_drew (S := Kept (fun _ => False) w1) (by kernel_rfl) ((Kept.refl _ w1).drew) (fun hSd => ?_)
  refine Tks.out (l := [(0, some none), (1, some none), (2, some none), (3, some none)]) ?_
  iterate 4
   refine tkT (v := ?_) rfl (by kernel_rfl) (by kernel_rfl) (by kernel_rfl) (fun _ _ _ h => h) (Or.inl ⟨by kernel_rfl, fun W hSW => by go_simp; try with_reducible rfl⟩) (by assumption) ?_
   try simp only [List.getElem_toArray, List.getElem_cons_succ, List.getElem_cons_zero]
   try go_frame
  refine tkE ?_
  refine Tks.out (l := [(4, some (some (.bool false))), (5, some (some (.bool false)))]) ?_
  iterate 2
   refine tkV rfl (by kernel_rfl) (by kernel_rfl) (by kernel_rfl) (fun _ _ _ h => h) (Or.inl ⟨by kernel_rfl, fun W hSW => by go_simp; try with_reducible rfl⟩) (by assumption) ?_
   try simp only [List.getElem_toArray, List.getElem_cons_succ, List.getElem_cons_zero]
   try go_frame
  refine tkE ?_
  refine Tks.out (l := [(6, some none), (7, some none)]) ?_
  iterate 2
   refine tkT (v := ?_) rfl (by kernel_rfl) (by kernel_rfl) (by kernel_rfl) (fun _ _ _ h => h) (Or.inl ⟨by kernel_rfl, fun W hSW => by go_simp; try with_reducible rfl⟩) (by assumption) ?_
   try simp only [List.getElem_toArray, List.getElem_cons_succ, List.getElem_cons_zero]
   try go_frame
  refine tkE ?_
  refine Tks.out (l := [(8, some (some (.bool false))), (9, some (some (.bool false))), (10, some (some (.bool false)))]) ?_
  iterate 3
   refine tkV rfl (by kernel_rfl) (by kernel_rfl) (by kernel_rfl) (fun _ _ _ h => h) (Or.inl ⟨by kernel_rfl, fun W hSW => by go_simp; try with_reducible rfl⟩) (by assumption) ?_
   try simp only [List.getElem_toArray, List.getElem_cons_succ, List.getElem_cons_zero]
   try go_frame
  refine tkE ?_
  refine Tks.out (l := [(11, some none), (12, some none), (13, some none), (14, some none), (15, some none), (16, some none)]) ?_
  iterate 6
   refine tkT (v := ?_) rfl (by kernel_rfl) (by kernel_rfl) (by kernel_rfl) (fun _ _ _ h => h) (Or.inl ⟨by kernel_rfl, fun W hSW => by go_simp; try with_reducible rfl⟩) (by assumption) ?_
   try simp only [List.getElem_toArray, List.getElem_cons_succ, List.getElem_cons_zero]
   try go_frame
  refine tkE ?_
  refine Tks.out (l := [(17, some (some (.bool false))), (18, some (some (.bool false))), (19, some (some (.bool false)))]) ?_
  iterate 3
   refine tkV rfl (by kernel_rfl) (by kernel_rfl) (by kernel_rfl) (fun _ _ _ h => h) (Or.inl ⟨by kernel_rfl, fun W hSW => by go_simp; try with_reducible rfl⟩) (by assumption) ?_
   try simp only [List.getElem_toArray, List.getElem_cons_succ, List.getElem_cons_zero]
   try go_frame
  refine tkE ?_
  refine Tks.out (l := [(20, some none), (21, some none), (22, some none), (23, some none), (24, some none), (25, some none)]) ?_
  iterate 6
   refine tkT (v := ?_) rfl (by kernel_rfl) (by kernel_rfl) (by kernel_rfl) (fun _ _ _ h => h) (Or.inl ⟨by kernel_rfl, fun W hSW => by go_simp; try with_reducible rfl⟩) (by assumption) ?_
   try simp only [List.getElem_toArray, List.getElem_cons_succ, List.getElem_cons_zero]
   try go_frame
  refine tkE ?_
  refine Tks.out (l := [(26, some (some (.bool false))), (27, some (some (.bool false)))]) ?_
  iterate 2
   refine tkV rfl (by kernel_rfl) (by kernel_rfl) (by kernel_rfl) (fun _ _ _ h => h) (Or.inl ⟨by kernel_rfl, fun W hSW => by go_simp; try with_reducible rfl⟩) (by assumption) ?_
   try simp only [List.getElem_toArray, List.getElem_cons_succ, List.getElem_cons_zero]
   try go_frame
  refine tkE ?_
  refine wpAnyH_done (by kernel_rfl) ?_ _
  obtain ⟨wd, hwd⟩ : ∃ wd, wd = w1.drew := ⟨_, rfl⟩
  have KD : Hid (Kept (fun _ => False) w1 wd) := by rw [hwd]; exact (Kept.refl _ w1).drew
  rw [← hwd]
  clear hwd
  have e13 := p13 wd KD.out
  go_wp2_with fail
  refine (HG.out _).mono ?_
  rintro e w2 ⟨rfl, hk2⟩
  have K2 := hid (KD.out.trans hk2)
  clear hk2 e13 KD
  go_upto_region 4 with fail
  have KB : Hid (Kept (fun _ => False) w1 (w2.alloc (.cells #[.int .i64 (dc.code : Int), .int .i64 (dc.session : Int), .string ⟨dc.data.toArray⟩] 82))) := K2.out.alloc _
  have B3 : Hid ((w2.alloc (.cells #[.int .i64 (dc.code : Int), .int .i64 (dc.session : Int), .string ⟨dc.data.toArray⟩] 82)).heap[w2.heap.size]? = some (.cells #[.int .i64 (dc.code : Int), .int .i64 (dc.session : Int), .string ⟨dc.data.toArray⟩] 82 (0, 0))) := heap_alloc_new w2 _
  generalize w2.alloc (.cells #[.int .i64 (dc.code : Int), .int .i64 (dc.session : Int), .string ⟨dc.data.toArray⟩] 82) = w3 at *
  generalize w2.heap.size = db at *
  clear p0 p1 p2 p3 p4 p5 p6 p7 p8 p9 p10 p11 p12 p13 r0 r1 r2 r3 r4 r5 r12 r13 r14 r15 r16 r17 r10 r11
  have hdl := (Array.getElem?_eq_some_iff.1 B3.out).1
  have q0 : ∀ W, Kept (fun _ => False) w3 W → W.cell? ⟨db, 0, none⟩ = some (.int .i64 (dc.code : Int)) := fun W hk => by simp [World.cell?, (hk.block db hdl (fun h => h)).trans B3.out]
  have q1 : ∀ W, Kept (fun _ => False) w3 W → W.cell? ⟨db, 1, none⟩ = some (.int .i64 (dc.session : Int)) := fun W hk => by simp [World.cell?, (hk.block db hdl (fun h => h)).trans B3.out]
  have q2 : ∀ W, Kept (fun _ => False) w3 W → W.cell? ⟨db, 2, none⟩ = some (.string ⟨dc.data.toArray⟩) := fun W hk => by simp [World.cell?, (hk.block db hdl (fun h => h)).trans B3.out]
  have r11 := fun W (hk : Kept (fun _ => False) w3 W) => (HC.out W (KB.out.trans hk)).c11
  refine wp_region_held_drew (S := Kept (fun _ => False) w3) (by kernel_rfl) ((Kept.refl _ w3).drew) (fun hSd => ?_)
  refine wpAnyH_take (i := 0) (v := ?_) rfl (by kernel_rfl) (by kernel_rfl) (by kernel_rfl) (fun _ _ _ h => h) (Or.inl ⟨by kernel_rfl, fun W hSW => by go_simp; try with_reducible rfl⟩) (by assumption) ?_
  try simp only [List.getElem_toArray, List.getElem_cons_zero]
  try go_frame
  refine Tks.out (l := [(1, some (some (.bool false))), (2, some (some (.bool false)))]) ?_
  iterate 2
   refine tkV rfl (by kernel_rfl) (by kernel_rfl) (by kernel_rfl) (fun _ _ _ h => h) (Or.inl ⟨by kernel_rfl, fun W hSW => by go_simp; try with_reducible rfl⟩) (by assumption) ?_
   try simp only [List.getElem_toArray, List.getElem_cons_succ, List.getElem_cons_zero]
   try go_frame
  refine tkE ?_
  refine Tks.out (l := [(3, some none), (4, some none)]) ?_
  iterate 2
   refine tkT (v := ?_) rfl (by kernel_rfl) (by kernel_rfl) (by kernel_rfl) (fun _ _ _ h => h) (Or.inl ⟨by kernel_rfl, fun W hSW => by go_simp; try with_reducible rfl⟩) (by assumption) ?_
   try simp only [List.getElem_toArray, List.getElem_cons_succ, List.getElem_cons_zero]
   try go_frame
  refine tkE ?_
  refine Tks.out (l := [(5, some (some (.bool false))), (6, some (some (.bool false))), (7, some (some (.bool false)))]) ?_
  iterate 3
   refine tkV rfl (by kernel_rfl) (by kernel_rfl) (by kernel_rfl) (fun _ _ _ h => h) (Or.inl ⟨by kernel_rfl, fun W hSW => by go_simp; try with_reducible rfl⟩) (by assumption) ?_
   try simp only [List.getElem_toArray, List.getElem_cons_succ, List.getElem_cons_zero]
   try go_frame
  refine tkE ?_
  refine Tks.out (l := [(8, some none), (9, some none), (10, some none), (11, some none), (12, some none), (13, some none)]) ?_
  iterate 6
   refine tkT (v := ?_) rfl (by kernel_rfl) (by kernel_rfl) (by kernel_rfl) (fun _ _ _ h => h) (Or.inl ⟨by kernel_rfl, fun W hSW => by go_simp; try with_reducible rfl⟩) (by assumption) ?_
   try simp only [List.getElem_toArray, List.getElem_cons_succ, List.getElem_cons_zero]
   try go_frame
  refine tkE ?_
  refine Tks.out (l := [(14, some (some (.bool false))), (15, some (some (.bool false)))]) ?_
  iterate 2
   refine tkV rfl (by kernel_rfl) (by kernel_rfl) (by kernel_rfl) (fun _ _ _ h => h) (Or.inl ⟨by kernel_rfl, fun W hSW => by go_simp; try with_reducible rfl⟩) (by assumption) ?_
   try simp only [List.getElem_toArray, List.getElem_cons_succ, List.getElem_cons_zero]
   try go_frame
  refine tkE ?_
  refine wpAnyH_done (by kernel_rfl) ?_ _
  have e2 := q2 w3.drew (Kept.refl _ w3).drew
  go_wp2
  go_ret2
  exact ⟨rfl, (K1.out.trans KB.out).drew⟩

/-- What Data tells. -/
def dataD (h : Hd) (f : Fr) : ByteArray × Bool := if h.state = 3 ∧ f.src = h.ac ∧ f.dst = h.mac ∧ (getS f).2.2 = true ∧ (getS f).1 = h.session then ((getS f).2.1, true) else (⟨#[]⟩, false)
theorem rData_any (b : Nat) (h : Hd) (hg : GoodD h) (f : Fr) (hdst : f.dst.length = 6) (hsrc : f.src.length = 6) (hsz : f.data.size ≤ 1000000) (w : World) (H : HdIn w b h) :
    Calls Tryz.prog 14 #[.pointer (some ⟨b, 0, none⟩), frV f] w fun e w' => e = .returned (.tuple #[.string (dataD h f).1, .bool (dataD h f).2]) ∧ Kept (fun _ => False) w w' := by
  obtain ⟨dst, src, ty, x⟩ := f
  simp only [] at hdst hsrc hsz
  unfold dataD getS
  simp only []
  by_cases hst : h.state = 3
  · by_cases hty : ty = 34916
    · rw [if_neg (show ¬ ty ≠ 34916 from fun h => h hty)]
      obtain ⟨dc, E, hget⟩ : ∃ dc E, getDiscF x.data.toList = (dc, E) := ⟨_, _, rfl⟩
      rw [hget]
      simp only []
      by_cases hc : src = h.ac
      · by_cases hm : dst = h.mac
        · by_cases hE0 : E = 0
          · by_cases hcd : dc.code = 0
            · rw [if_neg (fun q : E ≠ 0 ∨ dc.code ≠ 0 => q.elim (fun q => q hE0) (fun q => q hcd))]
              by_cases hss : (dc.session : Int) = h.session
              · rw [if_pos ⟨hst, hc, hm, rfl, hss⟩]
                exact rData_good b h hg dst src hdst hsrc ty x hsz w H hst hty hc hm dc E hget hE0 hcd hss
              · rw [if_neg (fun e => hss e.2.2.2.2)]
                exact rData_ses b h hg dst src hdst hsrc ty x hsz w H hst hty hc hm dc E hget hE0 hcd hss
            · rw [if_pos (Or.inr hcd), if_neg (fun e => by cases e.2.2.2.1)]
              exact rData_code b h hg dst src hdst hsrc ty x hsz w H hst hty hc hm dc E hget hE0 hcd
          · rw [if_pos (Or.inl hE0), if_neg (fun e => by cases e.2.2.2.1)]
            exact rData_err b h hg dst src hdst hsrc ty x hsz w H hst hty hc hm dc E hget hE0
        · rw [if_neg (fun e => hm e.2.2.1)]
          exact rData_dst b h hg dst src hdst hsrc ty x hsz w H hst hty hc hm
      · rw [if_neg (fun e => hc e.2.1)]
        exact rData_src b h hg dst src hdst hsrc ty x hsz w H hst hty hc
    · rw [if_pos hty, if_neg (fun e => by cases e.2.2.2.1)]
      exact rData_type b h hg dst src hdst hsrc ty x hsz w H hst hty
  · rw [if_neg (fun e => hst e.1)]
    exact rData_state b h hg dst src hdst hsrc ty x hsz w H hst
end Go.Proofs.YtffnppfoofifgaaGreat
