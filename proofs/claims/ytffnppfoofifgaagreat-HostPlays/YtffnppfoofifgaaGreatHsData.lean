/- Host.Data at every frame: what a session's frame has. -/
import Derived.Test.YtffnppfoofifgaaGreatTk
import Derived.Test.YtffnppfoofifgaaGreatHsUp
import Derived.Test.YtffnppfoofifgaaGreatEtSess
namespace Go.Proofs.YtffnppfoofifgaaGreat
open Go.RowKit

/-- What Data tells. -/
def dataH (h : Hs) (f : Fr) : ByteArray × Bool := if h.state = 3 ∧ f.src = h.conc ∧ f.dst = h.mac ∧ (getS f).2.2 = true ∧ (getS f).1 = h.session then ((getS f).2.1, true) else (⟨#[]⟩, false)

set_option maxHeartbeats 4000000 in
set_option maxRecDepth 100000 in
theorem data_state (b : Nat) (av : Value) (h : Hs) (hg : GoodH h) (dst src : List UInt8) (hdst : dst.length = 6) (hsrc : src.length = 6) (ty : Int) (x : ByteArray) (_hsz : x.size ≤ 1000000) (w : World) (hH : HostIn w b av h) (hst : ¬ h.state = 3) :
    Calls Tryz.prog 13 #[.pointer (some ⟨b, 0, none⟩), frV ⟨dst, src, ty, x⟩] w fun e w' => e = .returned (.tuple #[.string ⟨#[]⟩, .bool false]) ∧ Kept (fun _ => False) w w' := by
  obtain ⟨x0, x1, x2, x3, x4, x5, hx⟩ := six_cells hg.mac
  obtain ⟨y0, y1, y2, y3, y4, y5, hy⟩ := six_cells hg.conc
  obtain ⟨d0, d1, d2, d3, d4, d5, hd⟩ := six_cells hdst
  obtain ⟨s0, s1, s2, s3, s4, s5, hs⟩ := six_cells hsrc
  have hfv : frV ⟨dst, src, ty, x⟩ = .agg #[.int .u8 d0, .int .u8 d1, .int .u8 d2, .int .u8 d3, .int .u8 d4, .int .u8 d5, .int .u8 s0, .int .u8 s1, .int .u8 s2, .int .u8 s3, .int .u8 s4, .int .u8 s5, .int .i64 ty, .string x] := by unfold frV frList; simp only []; rw [hd, hs]; rfl
  rw [hfv]
  have hE := mac_eq dst h.mac hdst hg.mac
  rw [hd, hx] at hE
  have hE3 := mac_eq src h.conc hsrc hg.conc
  rw [hs, hy] at hE3
  obtain ⟨w1, hw1⟩ : ∃ w1, w1 = w.alloc (.cells #[.int .u8 d0, .int .u8 d1, .int .u8 d2, .int .u8 d3, .int .u8 d4, .int .u8 d5, .int .u8 s0, .int .u8 s1, .int .u8 s2, .int .u8 s3, .int .u8 s4, .int .u8 s5, .int .i64 ty, .string x] 55) := ⟨_, rfl⟩
  have Hw1 := hid hw1
  have K1 : Hid (Kept (fun _ => False) w w1) := by rw [hw1]; exact (Kept.refl _ w).alloc _
  have O1 : Hid (Own14 w1 w.heap.size #[.int .u8 d0, .int .u8 d1, .int .u8 d2, .int .u8 d3, .int .u8 d4, .int .u8 d5, .int .u8 s0, .int .u8 s1, .int .u8 s2, .int .u8 s3, .int .u8 s4, .int .u8 s5, .int .i64 ty, .string x]) := by rw [hw1]; exact own14_new w _
  have HH := hid (fun W (hk : Kept (fun _ => False) w1 W) => hH.kept0 (K1.out.trans hk))
  have HN := hid (fun W (hk : Kept (fun _ => False) w1 W) => (HH.out W hk).notNone hg)
  have HC := hid (fun W (hk : Kept (fun _ => False) w1 W) => (HH.out W hk).cells hx hy)
  obtain ⟨p0, p1, p2, p3, p4, p5, p6, p7, p8, p9, p10, p11, p12, p13⟩ := cells14 (C := fun W => Kept (fun _ => False) w1 W) (X := w.heap.size) (fun W h => O1.out.kept h)
  have r0 := fun W (h : Kept (fun _ => False) w1 W) => (HC.out W h).c0
  have r1 := fun W (h : Kept (fun _ => False) w1 W) => (HC.out W h).c1
  have r2 := fun W (h : Kept (fun _ => False) w1 W) => (HC.out W h).c2
  have r3 := fun W (h : Kept (fun _ => False) w1 W) => (HC.out W h).c3
  have r4 := fun W (h : Kept (fun _ => False) w1 W) => (HC.out W h).c4
  have r5 := fun W (h : Kept (fun _ => False) w1 W) => (HC.out W h).c5
  have r11 := fun W (h : Kept (fun _ => False) w1 W) => (HC.out W h).c11
  have r12 := fun W (h : Kept (fun _ => False) w1 W) => (HC.out W h).c12
  have r13 := fun W (h : Kept (fun _ => False) w1 W) => (HC.out W h).c13
  have r14 := fun W (h : Kept (fun _ => False) w1 W) => (HC.out W h).c14
  have r15 := fun W (h : Kept (fun _ => False) w1 W) => (HC.out W h).c15
  have r16 := fun W (h : Kept (fun _ => False) w1 W) => (HC.out W h).c16
  have r10 := fun W (h : Kept (fun _ => False) w1 W) => (HC.out W h).c10
  have r17 := fun W (h : Kept (fun _ => False) w1 W) => (HC.out W h).c17
  have n3 : (h.state != 3) = true := by simpa using hst
  clear hfv hw1 hd hs hH hx hy hdst hsrc hg
  clear hst
  go_enter Tryz.func13, Tryz.ntmps13
  go_wp2_with fail
  rw [← Hw1.out]
  refine wp_region_held_drew (S := Kept (fun _ => False) w1) (by kernel_rfl) ((Kept.refl _ w1).drew) (fun hSd => ?_)
  refine wpAnyH_take (i := 0) (v := ?_) rfl (by kernel_rfl) (by kernel_rfl) (by kernel_rfl) (fun _ _ _ h => h) (Or.inl ⟨by kernel_rfl, fun W hSW => by go_simp; try with_reducible rfl⟩) (by assumption) ?_
  try simp only [List.getElem_toArray, List.getElem_cons_zero]
  try go_frame
  refine wpAnyH_ready (rs := [1]) (by kernel_rfl) (by simp) ?_
  refine AllReadyH.cons rfl (fun K hK => ?_) AllReadyH.nil
  go_simp
  refine (HN.out _ (Kept.refl _ w1).drew).mono ?_
  rintro e w' ⟨rfl, hw'⟩
  rw [hw']
  clear hw' w'
  refine hK.out _ _ ((Kept.refl _ w1).drew) (fun _ => ?_)
  clear hK K
  try simp only [List.getElem_toArray, List.getElem_cons_succ, List.getElem_cons_zero]
  try go_frame
  refine wpAnyH_take (i := 2) (v := (.bool false)) rfl (by kernel_rfl) (by kernel_rfl) (by kernel_rfl) (fun _ _ _ h => h) (Or.inl ⟨by kernel_rfl, fun W hSW => by go_simp; try with_reducible rfl⟩) (by assumption) ?_
  try simp only [List.getElem_toArray, List.getElem_cons_succ, List.getElem_cons_zero]
  try go_frame
  refine Tks.out (l := [(3, some none), (4, some none), (5, some none), (6, some none), (7, some none)]) ?_
  iterate 5
   refine tkT (v := ?_) rfl (by kernel_rfl) (by kernel_rfl) (by kernel_rfl) (fun _ _ _ h => h) (Or.inl ⟨by kernel_rfl, fun W hSW => by go_simp; try with_reducible rfl⟩) (by assumption) ?_
   try simp only [List.getElem_toArray, List.getElem_cons_succ, List.getElem_cons_zero]
   try go_frame
  refine tkE ?_
  refine Tks.out (l := [(8, some (some (.bool true))), (9, some (some (.bool true))), (10, some (some (.bool true)))]) ?_
  iterate 3
   refine tkV rfl (by kernel_rfl) (by kernel_rfl) (by kernel_rfl) (fun _ _ _ h => h) (Or.inl ⟨by kernel_rfl, fun W hSW => by go_simp; try with_reducible rfl⟩) (by assumption) ?_
   try simp only [List.getElem_toArray, List.getElem_cons_succ, List.getElem_cons_zero]
   try go_frame
  refine tkE ?_
  refine Tks.out (l := [(11, none), (12, none), (13, none), (14, none), (15, none), (16, none), (17, none), (18, none)]) ?_
  iterate 8
   refine tkS rfl (by kernel_rfl) (by kernel_rfl) (by kernel_rfl) (fun _ _ _ h => h) (Or.inr ⟨by kernel_rfl, rfl⟩) (by assumption) ?_
   try simp only [List.getElem_toArray, List.getElem_cons_succ, List.getElem_cons_zero]
   try go_frame
  refine tkE ?_
  refine Tks.out (l := [(19, some (some (.bool true))), (20, some (some (.bool true)))]) ?_
  iterate 2
   refine tkV rfl (by kernel_rfl) (by kernel_rfl) (by kernel_rfl) (fun _ _ _ h => h) (Or.inl ⟨by kernel_rfl, fun W hSW => by go_simp; try with_reducible rfl⟩) (by assumption) ?_
   try simp only [List.getElem_toArray, List.getElem_cons_succ, List.getElem_cons_zero]
   try go_frame
  refine tkE ?_
  refine Tks.out (l := [(21, none), (22, none), (23, none), (24, none), (25, none), (26, none), (27, none)]) ?_
  iterate 7
   refine tkS rfl (by kernel_rfl) (by kernel_rfl) (by kernel_rfl) (fun _ _ _ h => h) (Or.inr ⟨by kernel_rfl, rfl⟩) (by assumption) ?_
   try simp only [List.getElem_toArray, List.getElem_cons_succ, List.getElem_cons_zero]
   try go_frame
  refine tkE ?_
  refine wpAnyH_take (i := 28) (v := (.bool true)) rfl (by kernel_rfl) (by kernel_rfl) (by kernel_rfl) (fun _ _ _ h => h) (Or.inl ⟨by kernel_rfl, fun W hSW => by go_simp; try with_reducible rfl⟩) (by assumption) ?_
  try simp only [List.getElem_toArray, List.getElem_cons_succ, List.getElem_cons_zero]
  try go_frame
  refine wpAnyH_done (by kernel_rfl) ?_ _
  go_wp2
  go_ret2
  exact ⟨rfl, K1.out.drew⟩

set_option maxHeartbeats 4000000 in
set_option maxRecDepth 100000 in
theorem data_src (b : Nat) (av : Value) (h : Hs) (hg : GoodH h) (dst src : List UInt8) (hdst : dst.length = 6) (hsrc : src.length = 6) (ty : Int) (x : ByteArray) (_hsz : x.size ≤ 1000000) (w : World) (hH : HostIn w b av h) (hst : h.state = 3) (hc : ¬ src = h.conc) :
    Calls Tryz.prog 13 #[.pointer (some ⟨b, 0, none⟩), frV ⟨dst, src, ty, x⟩] w fun e w' => e = .returned (.tuple #[.string ⟨#[]⟩, .bool false]) ∧ Kept (fun _ => False) w w' := by
  obtain ⟨x0, x1, x2, x3, x4, x5, hx⟩ := six_cells hg.mac
  obtain ⟨y0, y1, y2, y3, y4, y5, hy⟩ := six_cells hg.conc
  obtain ⟨d0, d1, d2, d3, d4, d5, hd⟩ := six_cells hdst
  obtain ⟨s0, s1, s2, s3, s4, s5, hs⟩ := six_cells hsrc
  have hfv : frV ⟨dst, src, ty, x⟩ = .agg #[.int .u8 d0, .int .u8 d1, .int .u8 d2, .int .u8 d3, .int .u8 d4, .int .u8 d5, .int .u8 s0, .int .u8 s1, .int .u8 s2, .int .u8 s3, .int .u8 s4, .int .u8 s5, .int .i64 ty, .string x] := by unfold frV frList; simp only []; rw [hd, hs]; rfl
  rw [hfv]
  have hE := mac_eq dst h.mac hdst hg.mac
  rw [hd, hx] at hE
  have hE3 := mac_eq src h.conc hsrc hg.conc
  rw [hs, hy] at hE3
  obtain ⟨w1, hw1⟩ : ∃ w1, w1 = w.alloc (.cells #[.int .u8 d0, .int .u8 d1, .int .u8 d2, .int .u8 d3, .int .u8 d4, .int .u8 d5, .int .u8 s0, .int .u8 s1, .int .u8 s2, .int .u8 s3, .int .u8 s4, .int .u8 s5, .int .i64 ty, .string x] 55) := ⟨_, rfl⟩
  have Hw1 := hid hw1
  have K1 : Hid (Kept (fun _ => False) w w1) := by rw [hw1]; exact (Kept.refl _ w).alloc _
  have O1 : Hid (Own14 w1 w.heap.size #[.int .u8 d0, .int .u8 d1, .int .u8 d2, .int .u8 d3, .int .u8 d4, .int .u8 d5, .int .u8 s0, .int .u8 s1, .int .u8 s2, .int .u8 s3, .int .u8 s4, .int .u8 s5, .int .i64 ty, .string x]) := by rw [hw1]; exact own14_new w _
  have HH := hid (fun W (hk : Kept (fun _ => False) w1 W) => hH.kept0 (K1.out.trans hk))
  have HN := hid (fun W (hk : Kept (fun _ => False) w1 W) => (HH.out W hk).notNone hg)
  have HC := hid (fun W (hk : Kept (fun _ => False) w1 W) => (HH.out W hk).cells hx hy)
  obtain ⟨p0, p1, p2, p3, p4, p5, p6, p7, p8, p9, p10, p11, p12, p13⟩ := cells14 (C := fun W => Kept (fun _ => False) w1 W) (X := w.heap.size) (fun W h => O1.out.kept h)
  have r0 := fun W (h : Kept (fun _ => False) w1 W) => (HC.out W h).c0
  have r1 := fun W (h : Kept (fun _ => False) w1 W) => (HC.out W h).c1
  have r2 := fun W (h : Kept (fun _ => False) w1 W) => (HC.out W h).c2
  have r3 := fun W (h : Kept (fun _ => False) w1 W) => (HC.out W h).c3
  have r4 := fun W (h : Kept (fun _ => False) w1 W) => (HC.out W h).c4
  have r5 := fun W (h : Kept (fun _ => False) w1 W) => (HC.out W h).c5
  have r11 := fun W (h : Kept (fun _ => False) w1 W) => (HC.out W h).c11
  have r12 := fun W (h : Kept (fun _ => False) w1 W) => (HC.out W h).c12
  have r13 := fun W (h : Kept (fun _ => False) w1 W) => (HC.out W h).c13
  have r14 := fun W (h : Kept (fun _ => False) w1 W) => (HC.out W h).c14
  have r15 := fun W (h : Kept (fun _ => False) w1 W) => (HC.out W h).c15
  have r16 := fun W (h : Kept (fun _ => False) w1 W) => (HC.out W h).c16
  have r10 := fun W (h : Kept (fun _ => False) w1 W) => (HC.out W h).c10
  have r17 := fun W (h : Kept (fun _ => False) w1 W) => (HC.out W h).c17
  have n3 : (h.state != 3) = false := by simpa using hst
  rw [decide_eq_false hc] at hE3
  clear hfv hw1 hd hs hH hx hy hdst hsrc hg
  clear hst hc
  go_enter Tryz.func13, Tryz.ntmps13
  go_wp2_with fail
  rw [← Hw1.out]
  refine wp_region_held_drew (S := Kept (fun _ => False) w1) (by kernel_rfl) ((Kept.refl _ w1).drew) (fun hSd => ?_)
  refine wpAnyH_take (i := 0) (v := ?_) rfl (by kernel_rfl) (by kernel_rfl) (by kernel_rfl) (fun _ _ _ h => h) (Or.inl ⟨by kernel_rfl, fun W hSW => by go_simp; try with_reducible rfl⟩) (by assumption) ?_
  try simp only [List.getElem_toArray, List.getElem_cons_zero]
  try go_frame
  refine wpAnyH_ready (rs := [1]) (by kernel_rfl) (by simp) ?_
  refine AllReadyH.cons rfl (fun K hK => ?_) AllReadyH.nil
  go_simp
  refine (HN.out _ (Kept.refl _ w1).drew).mono ?_
  rintro e w' ⟨rfl, hw'⟩
  rw [hw']
  clear hw' w'
  refine hK.out _ _ ((Kept.refl _ w1).drew) (fun _ => ?_)
  clear hK K
  try simp only [List.getElem_toArray, List.getElem_cons_succ, List.getElem_cons_zero]
  try go_frame
  refine wpAnyH_take (i := 2) (v := (.bool false)) rfl (by kernel_rfl) (by kernel_rfl) (by kernel_rfl) (fun _ _ _ h => h) (Or.inl ⟨by kernel_rfl, fun W hSW => by go_simp; try with_reducible rfl⟩) (by assumption) ?_
  try simp only [List.getElem_toArray, List.getElem_cons_succ, List.getElem_cons_zero]
  try go_frame
  refine Tks.out (l := [(3, some none), (4, some none), (5, some none), (6, some none), (7, some none)]) ?_
  iterate 5
   refine tkT (v := ?_) rfl (by kernel_rfl) (by kernel_rfl) (by kernel_rfl) (fun _ _ _ h => h) (Or.inl ⟨by kernel_rfl, fun W hSW => by go_simp; try with_reducible rfl⟩) (by assumption) ?_
   try simp only [List.getElem_toArray, List.getElem_cons_succ, List.getElem_cons_zero]
   try go_frame
  refine tkE ?_
  refine Tks.out (l := [(8, some (some (.bool false))), (9, some (some (.bool false))), (10, some (some (.bool false)))]) ?_
  iterate 3
   refine tkV rfl (by kernel_rfl) (by kernel_rfl) (by kernel_rfl) (fun _ _ _ h => h) (Or.inl ⟨by kernel_rfl, fun W hSW => by go_simp; try with_reducible rfl⟩) (by assumption) ?_
   try simp only [List.getElem_toArray, List.getElem_cons_succ, List.getElem_cons_zero]
   try go_frame
  refine tkE ?_
  refine Tks.out (l := [(11, some none), (12, some none), (13, some none), (14, some none), (15, some none), (16, some none), (17, some none)]) ?_
  iterate 7
   refine tkT (v := ?_) rfl (by kernel_rfl) (by kernel_rfl) (by kernel_rfl) (fun _ _ _ h => h) (Or.inl ⟨by kernel_rfl, fun W hSW => by go_simp; try with_reducible rfl⟩) (by assumption) ?_
   try simp only [List.getElem_toArray, List.getElem_cons_succ, List.getElem_cons_zero]
   try go_frame
  refine tkE ?_
  refine Tks.out (l := [(18, some (some (.bool true))), (19, some (some (.bool true))), (20, some (some (.bool true)))]) ?_
  iterate 3
   refine tkV rfl (by kernel_rfl) (by kernel_rfl) (by kernel_rfl) (fun _ _ _ h => h) (Or.inl ⟨by kernel_rfl, fun W hSW => by go_simp; try with_reducible rfl⟩) (by assumption) ?_
   try simp only [List.getElem_toArray, List.getElem_cons_succ, List.getElem_cons_zero]
   try go_frame
  refine tkE ?_
  refine Tks.out (l := [(21, none), (22, none), (23, none), (24, none), (25, none), (26, none), (27, none)]) ?_
  iterate 7
   refine tkS rfl (by kernel_rfl) (by kernel_rfl) (by kernel_rfl) (fun _ _ _ h => h) (Or.inr ⟨by kernel_rfl, rfl⟩) (by assumption) ?_
   try simp only [List.getElem_toArray, List.getElem_cons_succ, List.getElem_cons_zero]
   try go_frame
  refine tkE ?_
  refine wpAnyH_take (i := 28) (v := (.bool true)) rfl (by kernel_rfl) (by kernel_rfl) (by kernel_rfl) (fun _ _ _ h => h) (Or.inl ⟨by kernel_rfl, fun W hSW => by go_simp; try with_reducible rfl⟩) (by assumption) ?_
  try simp only [List.getElem_toArray, List.getElem_cons_succ, List.getElem_cons_zero]
  try go_frame
  refine wpAnyH_done (by kernel_rfl) ?_ _
  go_wp2
  go_ret2
  exact ⟨rfl, K1.out.drew⟩

set_option maxHeartbeats 4000000 in
set_option maxRecDepth 100000 in
theorem data_dst (b : Nat) (av : Value) (h : Hs) (hg : GoodH h) (dst src : List UInt8) (hdst : dst.length = 6) (hsrc : src.length = 6) (ty : Int) (x : ByteArray) (_hsz : x.size ≤ 1000000) (w : World) (hH : HostIn w b av h) (hst : h.state = 3) (hc : src = h.conc) (hmac : ¬ dst = h.mac) :
    Calls Tryz.prog 13 #[.pointer (some ⟨b, 0, none⟩), frV ⟨dst, src, ty, x⟩] w fun e w' => e = .returned (.tuple #[.string ⟨#[]⟩, .bool false]) ∧ Kept (fun _ => False) w w' := by
  obtain ⟨x0, x1, x2, x3, x4, x5, hx⟩ := six_cells hg.mac
  obtain ⟨y0, y1, y2, y3, y4, y5, hy⟩ := six_cells hg.conc
  obtain ⟨d0, d1, d2, d3, d4, d5, hd⟩ := six_cells hdst
  obtain ⟨s0, s1, s2, s3, s4, s5, hs⟩ := six_cells hsrc
  have hfv : frV ⟨dst, src, ty, x⟩ = .agg #[.int .u8 d0, .int .u8 d1, .int .u8 d2, .int .u8 d3, .int .u8 d4, .int .u8 d5, .int .u8 s0, .int .u8 s1, .int .u8 s2, .int .u8 s3, .int .u8 s4, .int .u8 s5, .int .i64 ty, .string x] := by unfold frV frList; simp only []; rw [hd, hs]; rfl
  rw [hfv]
  have hE := mac_eq dst h.mac hdst hg.mac
  rw [hd, hx] at hE
  have hE3 := mac_eq src h.conc hsrc hg.conc
  rw [hs, hy] at hE3
  obtain ⟨w1, hw1⟩ : ∃ w1, w1 = w.alloc (.cells #[.int .u8 d0, .int .u8 d1, .int .u8 d2, .int .u8 d3, .int .u8 d4, .int .u8 d5, .int .u8 s0, .int .u8 s1, .int .u8 s2, .int .u8 s3, .int .u8 s4, .int .u8 s5, .int .i64 ty, .string x] 55) := ⟨_, rfl⟩
  have Hw1 := hid hw1
  have K1 : Hid (Kept (fun _ => False) w w1) := by rw [hw1]; exact (Kept.refl _ w).alloc _
  have O1 : Hid (Own14 w1 w.heap.size #[.int .u8 d0, .int .u8 d1, .int .u8 d2, .int .u8 d3, .int .u8 d4, .int .u8 d5, .int .u8 s0, .int .u8 s1, .int .u8 s2, .int .u8 s3, .int .u8 s4, .int .u8 s5, .int .i64 ty, .string x]) := by rw [hw1]; exact own14_new w _
  have HH := hid (fun W (hk : Kept (fun _ => False) w1 W) => hH.kept0 (K1.out.trans hk))
  have HN := hid (fun W (hk : Kept (fun _ => False) w1 W) => (HH.out W hk).notNone hg)
  have HC := hid (fun W (hk : Kept (fun _ => False) w1 W) => (HH.out W hk).cells hx hy)
  obtain ⟨p0, p1, p2, p3, p4, p5, p6, p7, p8, p9, p10, p11, p12, p13⟩ := cells14 (C := fun W => Kept (fun _ => False) w1 W) (X := w.heap.size) (fun W h => O1.out.kept h)
  have r0 := fun W (h : Kept (fun _ => False) w1 W) => (HC.out W h).c0
  have r1 := fun W (h : Kept (fun _ => False) w1 W) => (HC.out W h).c1
  have r2 := fun W (h : Kept (fun _ => False) w1 W) => (HC.out W h).c2
  have r3 := fun W (h : Kept (fun _ => False) w1 W) => (HC.out W h).c3
  have r4 := fun W (h : Kept (fun _ => False) w1 W) => (HC.out W h).c4
  have r5 := fun W (h : Kept (fun _ => False) w1 W) => (HC.out W h).c5
  have r11 := fun W (h : Kept (fun _ => False) w1 W) => (HC.out W h).c11
  have r12 := fun W (h : Kept (fun _ => False) w1 W) => (HC.out W h).c12
  have r13 := fun W (h : Kept (fun _ => False) w1 W) => (HC.out W h).c13
  have r14 := fun W (h : Kept (fun _ => False) w1 W) => (HC.out W h).c14
  have r15 := fun W (h : Kept (fun _ => False) w1 W) => (HC.out W h).c15
  have r16 := fun W (h : Kept (fun _ => False) w1 W) => (HC.out W h).c16
  have r10 := fun W (h : Kept (fun _ => False) w1 W) => (HC.out W h).c10
  have r17 := fun W (h : Kept (fun _ => False) w1 W) => (HC.out W h).c17
  have n3 : (h.state != 3) = false := by simpa using hst
  rw [decide_eq_true hc] at hE3
  rw [decide_eq_false hmac] at hE
  clear hfv hw1 hd hs hH hx hy hdst hsrc hg
  clear hst hc hmac
  go_enter Tryz.func13, Tryz.ntmps13
  go_wp2_with fail
  rw [← Hw1.out]
  refine wp_region_held_drew (S := Kept (fun _ => False) w1) (by kernel_rfl) ((Kept.refl _ w1).drew) (fun hSd => ?_)
  refine wpAnyH_take (i := 0) (v := ?_) rfl (by kernel_rfl) (by kernel_rfl) (by kernel_rfl) (fun _ _ _ h => h) (Or.inl ⟨by kernel_rfl, fun W hSW => by go_simp; try with_reducible rfl⟩) (by assumption) ?_
  try simp only [List.getElem_toArray, List.getElem_cons_zero]
  try go_frame
  refine wpAnyH_ready (rs := [1]) (by kernel_rfl) (by simp) ?_
  refine AllReadyH.cons rfl (fun K hK => ?_) AllReadyH.nil
  go_simp
  refine (HN.out _ (Kept.refl _ w1).drew).mono ?_
  rintro e w' ⟨rfl, hw'⟩
  rw [hw']
  clear hw' w'
  refine hK.out _ _ ((Kept.refl _ w1).drew) (fun _ => ?_)
  clear hK K
  try simp only [List.getElem_toArray, List.getElem_cons_succ, List.getElem_cons_zero]
  try go_frame
  refine wpAnyH_take (i := 2) (v := (.bool false)) rfl (by kernel_rfl) (by kernel_rfl) (by kernel_rfl) (fun _ _ _ h => h) (Or.inl ⟨by kernel_rfl, fun W hSW => by go_simp; try with_reducible rfl⟩) (by assumption) ?_
  try simp only [List.getElem_toArray, List.getElem_cons_succ, List.getElem_cons_zero]
  try go_frame
  refine Tks.out (l := [(3, some none), (4, some none), (5, some none), (6, some none), (7, some none)]) ?_
  iterate 5
   refine tkT (v := ?_) rfl (by kernel_rfl) (by kernel_rfl) (by kernel_rfl) (fun _ _ _ h => h) (Or.inl ⟨by kernel_rfl, fun W hSW => by go_simp; try with_reducible rfl⟩) (by assumption) ?_
   try simp only [List.getElem_toArray, List.getElem_cons_succ, List.getElem_cons_zero]
   try go_frame
  refine tkE ?_
  refine Tks.out (l := [(8, some (some (.bool false))), (9, some (some (.bool false))), (10, some (some (.bool false)))]) ?_
  iterate 3
   refine tkV rfl (by kernel_rfl) (by kernel_rfl) (by kernel_rfl) (fun _ _ _ h => h) (Or.inl ⟨by kernel_rfl, fun W hSW => by go_simp; try with_reducible rfl⟩) (by assumption) ?_
   try simp only [List.getElem_toArray, List.getElem_cons_succ, List.getElem_cons_zero]
   try go_frame
  refine tkE ?_
  refine Tks.out (l := [(11, some none), (12, some none), (13, some none), (14, some none), (15, some none), (16, some none), (17, some none)]) ?_
  iterate 7
   refine tkT (v := ?_) rfl (by kernel_rfl) (by kernel_rfl) (by kernel_rfl) (fun _ _ _ h => h) (Or.inl ⟨by kernel_rfl, fun W hSW => by go_simp; try with_reducible rfl⟩) (by assumption) ?_
   try simp only [List.getElem_toArray, List.getElem_cons_succ, List.getElem_cons_zero]
   try go_frame
  refine tkE ?_
  refine Tks.out (l := [(18, some (some (.bool false))), (19, some (some (.bool false))), (20, some (some (.bool false)))]) ?_
  iterate 3
   refine tkV rfl (by kernel_rfl) (by kernel_rfl) (by kernel_rfl) (fun _ _ _ h => h) (Or.inl ⟨by kernel_rfl, fun W hSW => by go_simp; try with_reducible rfl⟩) (by assumption) ?_
   try simp only [List.getElem_toArray, List.getElem_cons_succ, List.getElem_cons_zero]
   try go_frame
  refine tkE ?_
  refine Tks.out (l := [(21, some none), (22, some none), (23, some none), (24, some none), (25, some none), (26, some none)]) ?_
  iterate 6
   refine tkT (v := ?_) rfl (by kernel_rfl) (by kernel_rfl) (by kernel_rfl) (fun _ _ _ h => h) (Or.inl ⟨by kernel_rfl, fun W hSW => by go_simp; try with_reducible rfl⟩) (by assumption) ?_
   try simp only [List.getElem_toArray, List.getElem_cons_succ, List.getElem_cons_zero]
   try go_frame
  refine tkE ?_
  refine Tks.out (l := [(27, some (some (.bool true))), (28, some (some (.bool true)))]) ?_
  iterate 2
   refine tkV rfl (by kernel_rfl) (by kernel_rfl) (by kernel_rfl) (fun _ _ _ h => h) (Or.inl ⟨by kernel_rfl, fun W hSW => by go_simp; try with_reducible rfl⟩) (by assumption) ?_
   try simp only [List.getElem_toArray, List.getElem_cons_succ, List.getElem_cons_zero]
   try go_frame
  refine tkE ?_
  refine wpAnyH_done (by kernel_rfl) ?_ _
  go_wp2
  go_ret2
  exact ⟨rfl, K1.out.drew⟩

set_option maxHeartbeats 4000000 in
set_option maxRecDepth 100000 in
theorem data_unread (b : Nat) (av : Value) (h : Hs) (hg : GoodH h) (dst src : List UInt8) (hdst : dst.length = 6) (hsrc : src.length = 6) (ty : Int) (x : ByteArray) (hsz : x.size ≤ 1000000) (w : World) (hH : HostIn w b av h) (hst : h.state = 3) (hc : src = h.conc) (hmac : dst = h.mac) (n : Int) (y : ByteArray) (hgs : getS ⟨dst, src, ty, x⟩ = (n, y, false)) :
    Calls Tryz.prog 13 #[.pointer (some ⟨b, 0, none⟩), frV ⟨dst, src, ty, x⟩] w fun e w' => e = .returned (.tuple #[.string ⟨#[]⟩, .bool false]) ∧ Kept (fun _ => False) w w' := by
  obtain ⟨x0, x1, x2, x3, x4, x5, hx⟩ := six_cells hg.mac
  obtain ⟨y0, y1, y2, y3, y4, y5, hy⟩ := six_cells hg.conc
  obtain ⟨d0, d1, d2, d3, d4, d5, hd⟩ := six_cells hdst
  obtain ⟨s0, s1, s2, s3, s4, s5, hs⟩ := six_cells hsrc
  have hfv : frV ⟨dst, src, ty, x⟩ = .agg #[.int .u8 d0, .int .u8 d1, .int .u8 d2, .int .u8 d3, .int .u8 d4, .int .u8 d5, .int .u8 s0, .int .u8 s1, .int .u8 s2, .int .u8 s3, .int .u8 s4, .int .u8 s5, .int .i64 ty, .string x] := by unfold frV frList; simp only []; rw [hd, hs]; rfl
  rw [hfv]
  have hE := mac_eq dst h.mac hdst hg.mac
  rw [hd, hx] at hE
  have hE3 := mac_eq src h.conc hsrc hg.conc
  rw [hs, hy] at hE3
  obtain ⟨w1, hw1⟩ : ∃ w1, w1 = w.alloc (.cells #[.int .u8 d0, .int .u8 d1, .int .u8 d2, .int .u8 d3, .int .u8 d4, .int .u8 d5, .int .u8 s0, .int .u8 s1, .int .u8 s2, .int .u8 s3, .int .u8 s4, .int .u8 s5, .int .i64 ty, .string x] 55) := ⟨_, rfl⟩
  have Hw1 := hid hw1
  have K1 : Hid (Kept (fun _ => False) w w1) := by rw [hw1]; exact (Kept.refl _ w).alloc _
  have O1 : Hid (Own14 w1 w.heap.size #[.int .u8 d0, .int .u8 d1, .int .u8 d2, .int .u8 d3, .int .u8 d4, .int .u8 d5, .int .u8 s0, .int .u8 s1, .int .u8 s2, .int .u8 s3, .int .u8 s4, .int .u8 s5, .int .i64 ty, .string x]) := by rw [hw1]; exact own14_new w _
  have HH := hid (fun W (hk : Kept (fun _ => False) w1 W) => hH.kept0 (K1.out.trans hk))
  have HN := hid (fun W (hk : Kept (fun _ => False) w1 W) => (HH.out W hk).notNone hg)
  have HC := hid (fun W (hk : Kept (fun _ => False) w1 W) => (HH.out W hk).cells hx hy)
  obtain ⟨p0, p1, p2, p3, p4, p5, p6, p7, p8, p9, p10, p11, p12, p13⟩ := cells14 (C := fun W => Kept (fun _ => False) w1 W) (X := w.heap.size) (fun W h => O1.out.kept h)
  have r0 := fun W (h : Kept (fun _ => False) w1 W) => (HC.out W h).c0
  have r1 := fun W (h : Kept (fun _ => False) w1 W) => (HC.out W h).c1
  have r2 := fun W (h : Kept (fun _ => False) w1 W) => (HC.out W h).c2
  have r3 := fun W (h : Kept (fun _ => False) w1 W) => (HC.out W h).c3
  have r4 := fun W (h : Kept (fun _ => False) w1 W) => (HC.out W h).c4
  have r5 := fun W (h : Kept (fun _ => False) w1 W) => (HC.out W h).c5
  have r11 := fun W (h : Kept (fun _ => False) w1 W) => (HC.out W h).c11
  have r12 := fun W (h : Kept (fun _ => False) w1 W) => (HC.out W h).c12
  have r13 := fun W (h : Kept (fun _ => False) w1 W) => (HC.out W h).c13
  have r14 := fun W (h : Kept (fun _ => False) w1 W) => (HC.out W h).c14
  have r15 := fun W (h : Kept (fun _ => False) w1 W) => (HC.out W h).c15
  have r16 := fun W (h : Kept (fun _ => False) w1 W) => (HC.out W h).c16
  have r10 := fun W (h : Kept (fun _ => False) w1 W) => (HC.out W h).c10
  have r17 := fun W (h : Kept (fun _ => False) w1 W) => (HC.out W h).c17
  have HGS := hid (fun W => getS_any ⟨dst, src, ty, x⟩ hdst hsrc hsz W)
  rw [hgs] at HGS
  simp only [] at HGS
  unfold frV frList at HGS
  simp only [] at HGS
  rw [hd, hs] at HGS
  change Hid (∀ W, Calls Tryz.prog 31 #[.agg #[.int .u8 d0, .int .u8 d1, .int .u8 d2, .int .u8 d3, .int .u8 d4, .int .u8 d5, .int .u8 s0, .int .u8 s1, .int .u8 s2, .int .u8 s3, .int .u8 s4, .int .u8 s5, .int .i64 ty, .string x]] W fun e w' => _) at HGS
  have n3 : (h.state != 3) = false := by simpa using hst
  rw [decide_eq_true hc] at hE3
  rw [decide_eq_true hmac] at hE
  clear hfv hw1 hd hs hH hx hy hdst hsrc hg
  clear hst hc hmac hgs
  go_enter Tryz.func13, Tryz.ntmps13
  go_wp2_with fail
  rw [← Hw1.out]
  refine wp_region_held_drew (S := Kept (fun _ => False) w1) (by kernel_rfl) ((Kept.refl _ w1).drew) (fun hSd => ?_)
  refine wpAnyH_take (i := 0) (v := ?_) rfl (by kernel_rfl) (by kernel_rfl) (by kernel_rfl) (fun _ _ _ h => h) (Or.inl ⟨by kernel_rfl, fun W hSW => by go_simp; try with_reducible rfl⟩) (by assumption) ?_
  try simp only [List.getElem_toArray, List.getElem_cons_zero]
  try go_frame
  refine wpAnyH_ready (rs := [1]) (by kernel_rfl) (by simp) ?_
  refine AllReadyH.cons rfl (fun K hK => ?_) AllReadyH.nil
  go_simp
  refine (HN.out _ (Kept.refl _ w1).drew).mono ?_
  rintro e w' ⟨rfl, hw'⟩
  rw [hw']
  clear hw' w'
  refine hK.out _ _ ((Kept.refl _ w1).drew) (fun _ => ?_)
  clear hK K
  try simp only [List.getElem_toArray, List.getElem_cons_succ, List.getElem_cons_zero]
  try go_frame
  refine wpAnyH_take (i := 2) (v := (.bool false)) rfl (by kernel_rfl) (by kernel_rfl) (by kernel_rfl) (fun _ _ _ h => h) (Or.inl ⟨by kernel_rfl, fun W hSW => by go_simp; try with_reducible rfl⟩) (by assumption) ?_
  try simp only [List.getElem_toArray, List.getElem_cons_succ, List.getElem_cons_zero]
  try go_frame
  refine Tks.out (l := [(3, some none), (4, some none), (5, some none), (6, some none), (7, some none)]) ?_
  iterate 5
   refine tkT (v := ?_) rfl (by kernel_rfl) (by kernel_rfl) (by kernel_rfl) (fun _ _ _ h => h) (Or.inl ⟨by kernel_rfl, fun W hSW => by go_simp; try with_reducible rfl⟩) (by assumption) ?_
   try simp only [List.getElem_toArray, List.getElem_cons_succ, List.getElem_cons_zero]
   try go_frame
  refine tkE ?_
  refine Tks.out (l := [(8, some (some (.bool false))), (9, some (some (.bool false))), (10, some (some (.bool false)))]) ?_
  iterate 3
   refine tkV rfl (by kernel_rfl) (by kernel_rfl) (by kernel_rfl) (fun _ _ _ h => h) (Or.inl ⟨by kernel_rfl, fun W hSW => by go_simp; try with_reducible rfl⟩) (by assumption) ?_
   try simp only [List.getElem_toArray, List.getElem_cons_succ, List.getElem_cons_zero]
   try go_frame
  refine tkE ?_
  refine Tks.out (l := [(11, some none), (12, some none), (13, some none), (14, some none), (15, some none), (16, some none), (17, some none)]) ?_
  iterate 7
   refine tkT (v := ?_) rfl (by kernel_rfl) (by kernel_rfl) (by kernel_rfl) (fun _ _ _ h => h) (Or.inl ⟨by kernel_rfl, fun W hSW => by go_simp; try with_reducible rfl⟩) (by assumption) ?_
   try simp only [List.getElem_toArray, List.getElem_cons_succ, List.getElem_cons_zero]
   try go_frame
  refine tkE ?_
  refine Tks.out (l := [(18, some (some (.bool false))), (19, some (some (.bool false))), (20, some (some (.bool false)))]) ?_
  iterate 3
   refine tkV rfl (by kernel_rfl) (by kernel_rfl) (by kernel_rfl) (fun _ _ _ h => h) (Or.inl ⟨by kernel_rfl, fun W hSW => by go_simp; try with_reducible rfl⟩) (by assumption) ?_
   try simp only [List.getElem_toArray, List.getElem_cons_succ, List.getElem_cons_zero]
   try go_frame
  refine tkE ?_
  refine Tks.out (l := [(21, some none), (22, some none), (23, some none), (24, some none), (25, some none), (26, some none)]) ?_
  iterate 6
   refine tkT (v := ?_) rfl (by kernel_rfl) (by kernel_rfl) (by kernel_rfl) (fun _ _ _ h => h) (Or.inl ⟨by kernel_rfl, fun W hSW => by go_simp; try with_reducible rfl⟩) (by assumption) ?_
   try simp only [List.getElem_toArray, List.getElem_cons_succ, List.getElem_cons_zero]
   try go_frame
  refine tkE ?_
  refine Tks.out (l := [(27, some (some (.bool false))), (28, some (some (.bool false)))]) ?_
  iterate 2
   refine tkV rfl (by kernel_rfl) (by kernel_rfl) (by kernel_rfl) (fun _ _ _ h => h) (Or.inl ⟨by kernel_rfl, fun W hSW => by go_simp; try with_reducible rfl⟩) (by assumption) ?_
   try simp only [List.getElem_toArray, List.getElem_cons_succ, List.getElem_cons_zero]
   try go_frame
  refine tkE ?_
  refine wpAnyH_done (by kernel_rfl) ?_ _
  have pd0 := p0 w1.drew (Kept.refl _ w1).drew
  have pd1 := p1 w1.drew (Kept.refl _ w1).drew
  have pd2 := p2 w1.drew (Kept.refl _ w1).drew
  have pd3 := p3 w1.drew (Kept.refl _ w1).drew
  have pd4 := p4 w1.drew (Kept.refl _ w1).drew
  have pd5 := p5 w1.drew (Kept.refl _ w1).drew
  have pd6 := p6 w1.drew (Kept.refl _ w1).drew
  have pd7 := p7 w1.drew (Kept.refl _ w1).drew
  have pd8 := p8 w1.drew (Kept.refl _ w1).drew
  have pd9 := p9 w1.drew (Kept.refl _ w1).drew
  have pd10 := p10 w1.drew (Kept.refl _ w1).drew
  have pd11 := p11 w1.drew (Kept.refl _ w1).drew
  have pd12 := p12 w1.drew (Kept.refl _ w1).drew
  have pd13 := p13 w1.drew (Kept.refl _ w1).drew
  go_wp2_with fail
  refine (HGS.out _).mono ?_
  rintro e w2 ⟨rfl, hk2⟩
  have k12 : Kept (fun _ => False) w1 w2 := (Kept.refl _ w1).drew.trans hk2
  have e17 := r17 w2 k12
  clear pd0 pd1 pd2 pd3 pd4 pd5 pd6 pd7 pd8 pd9 pd10 pd11 pd12 pd13
  go_wp2
  go_ret2
  exact ⟨rfl, K1.out.trans k12⟩

set_option maxHeartbeats 4000000 in
set_option maxRecDepth 100000 in
theorem data_ses (b : Nat) (av : Value) (h : Hs) (hg : GoodH h) (dst src : List UInt8) (hdst : dst.length = 6) (hsrc : src.length = 6) (ty : Int) (x : ByteArray) (hsz : x.size ≤ 1000000) (w : World) (hH : HostIn w b av h) (hst : h.state = 3) (hc : src = h.conc) (hmac : dst = h.mac) (n : Int) (y : ByteArray) (hgs : getS ⟨dst, src, ty, x⟩ = (n, y, true)) (hn : ¬ n = h.session) :
    Calls Tryz.prog 13 #[.pointer (some ⟨b, 0, none⟩), frV ⟨dst, src, ty, x⟩] w fun e w' => e = .returned (.tuple #[.string ⟨#[]⟩, .bool false]) ∧ Kept (fun _ => False) w w' := by
  obtain ⟨x0, x1, x2, x3, x4, x5, hx⟩ := six_cells hg.mac
  obtain ⟨y0, y1, y2, y3, y4, y5, hy⟩ := six_cells hg.conc
  obtain ⟨d0, d1, d2, d3, d4, d5, hd⟩ := six_cells hdst
  obtain ⟨s0, s1, s2, s3, s4, s5, hs⟩ := six_cells hsrc
  have hfv : frV ⟨dst, src, ty, x⟩ = .agg #[.int .u8 d0, .int .u8 d1, .int .u8 d2, .int .u8 d3, .int .u8 d4, .int .u8 d5, .int .u8 s0, .int .u8 s1, .int .u8 s2, .int .u8 s3, .int .u8 s4, .int .u8 s5, .int .i64 ty, .string x] := by unfold frV frList; simp only []; rw [hd, hs]; rfl
  rw [hfv]
  have hE := mac_eq dst h.mac hdst hg.mac
  rw [hd, hx] at hE
  have hE3 := mac_eq src h.conc hsrc hg.conc
  rw [hs, hy] at hE3
  obtain ⟨w1, hw1⟩ : ∃ w1, w1 = w.alloc (.cells #[.int .u8 d0, .int .u8 d1, .int .u8 d2, .int .u8 d3, .int .u8 d4, .int .u8 d5, .int .u8 s0, .int .u8 s1, .int .u8 s2, .int .u8 s3, .int .u8 s4, .int .u8 s5, .int .i64 ty, .string x] 55) := ⟨_, rfl⟩
  have Hw1 := hid hw1
  have K1 : Hid (Kept (fun _ => False) w w1) := by rw [hw1]; exact (Kept.refl _ w).alloc _
  have O1 : Hid (Own14 w1 w.heap.size #[.int .u8 d0, .int .u8 d1, .int .u8 d2, .int .u8 d3, .int .u8 d4, .int .u8 d5, .int .u8 s0, .int .u8 s1, .int .u8 s2, .int .u8 s3, .int .u8 s4, .int .u8 s5, .int .i64 ty, .string x]) := by rw [hw1]; exact own14_new w _
  have HH := hid (fun W (hk : Kept (fun _ => False) w1 W) => hH.kept0 (K1.out.trans hk))
  have HN := hid (fun W (hk : Kept (fun _ => False) w1 W) => (HH.out W hk).notNone hg)
  have HC := hid (fun W (hk : Kept (fun _ => False) w1 W) => (HH.out W hk).cells hx hy)
  obtain ⟨p0, p1, p2, p3, p4, p5, p6, p7, p8, p9, p10, p11, p12, p13⟩ := cells14 (C := fun W => Kept (fun _ => False) w1 W) (X := w.heap.size) (fun W h => O1.out.kept h)
  have r0 := fun W (h : Kept (fun _ => False) w1 W) => (HC.out W h).c0
  have r1 := fun W (h : Kept (fun _ => False) w1 W) => (HC.out W h).c1
  have r2 := fun W (h : Kept (fun _ => False) w1 W) => (HC.out W h).c2
  have r3 := fun W (h : Kept (fun _ => False) w1 W) => (HC.out W h).c3
  have r4 := fun W (h : Kept (fun _ => False) w1 W) => (HC.out W h).c4
  have r5 := fun W (h : Kept (fun _ => False) w1 W) => (HC.out W h).c5
  have r11 := fun W (h : Kept (fun _ => False) w1 W) => (HC.out W h).c11
  have r12 := fun W (h : Kept (fun _ => False) w1 W) => (HC.out W h).c12
  have r13 := fun W (h : Kept (fun _ => False) w1 W) => (HC.out W h).c13
  have r14 := fun W (h : Kept (fun _ => False) w1 W) => (HC.out W h).c14
  have r15 := fun W (h : Kept (fun _ => False) w1 W) => (HC.out W h).c15
  have r16 := fun W (h : Kept (fun _ => False) w1 W) => (HC.out W h).c16
  have r10 := fun W (h : Kept (fun _ => False) w1 W) => (HC.out W h).c10
  have r17 := fun W (h : Kept (fun _ => False) w1 W) => (HC.out W h).c17
  have HGS := hid (fun W => getS_any ⟨dst, src, ty, x⟩ hdst hsrc hsz W)
  rw [hgs] at HGS
  simp only [] at HGS
  unfold frV frList at HGS
  simp only [] at HGS
  rw [hd, hs] at HGS
  change Hid (∀ W, Calls Tryz.prog 31 #[.agg #[.int .u8 d0, .int .u8 d1, .int .u8 d2, .int .u8 d3, .int .u8 d4, .int .u8 d5, .int .u8 s0, .int .u8 s1, .int .u8 s2, .int .u8 s3, .int .u8 s4, .int .u8 s5, .int .i64 ty, .string x]] W fun e w' => _) at HGS
  have n3 : (h.state != 3) = false := by simpa using hst
  rw [decide_eq_true hc] at hE3
  rw [decide_eq_true hmac] at hE
  have nn : (n != h.session) = true := by simpa using hn
  clear hfv hw1 hd hs hH hx hy hdst hsrc hg
  clear hst hc hmac hgs hn
  go_enter Tryz.func13, Tryz.ntmps13
  go_wp2_with fail
  rw [← Hw1.out]
  refine wp_region_held_drew (S := Kept (fun _ => False) w1) (by kernel_rfl) ((Kept.refl _ w1).drew) (fun hSd => ?_)
  refine wpAnyH_take (i := 0) (v := ?_) rfl (by kernel_rfl) (by kernel_rfl) (by kernel_rfl) (fun _ _ _ h => h) (Or.inl ⟨by kernel_rfl, fun W hSW => by go_simp; try with_reducible rfl⟩) (by assumption) ?_
  try simp only [List.getElem_toArray, List.getElem_cons_zero]
  try go_frame
  refine wpAnyH_ready (rs := [1]) (by kernel_rfl) (by simp) ?_
  refine AllReadyH.cons rfl (fun K hK => ?_) AllReadyH.nil
  go_simp
  refine (HN.out _ (Kept.refl _ w1).drew).mono ?_
  rintro e w' ⟨rfl, hw'⟩
  rw [hw']
  clear hw' w'
  refine hK.out _ _ ((Kept.refl _ w1).drew) (fun _ => ?_)
  clear hK K
  try simp only [List.getElem_toArray, List.getElem_cons_succ, List.getElem_cons_zero]
  try go_frame
  refine wpAnyH_take (i := 2) (v := (.bool false)) rfl (by kernel_rfl) (by kernel_rfl) (by kernel_rfl) (fun _ _ _ h => h) (Or.inl ⟨by kernel_rfl, fun W hSW => by go_simp; try with_reducible rfl⟩) (by assumption) ?_
  try simp only [List.getElem_toArray, List.getElem_cons_succ, List.getElem_cons_zero]
  try go_frame
  refine Tks.out (l := [(3, some none), (4, some none), (5, some none), (6, some none), (7, some none)]) ?_
  iterate 5
   refine tkT (v := ?_) rfl (by kernel_rfl) (by kernel_rfl) (by kernel_rfl) (fun _ _ _ h => h) (Or.inl ⟨by kernel_rfl, fun W hSW => by go_simp; try with_reducible rfl⟩) (by assumption) ?_
   try simp only [List.getElem_toArray, List.getElem_cons_succ, List.getElem_cons_zero]
   try go_frame
  refine tkE ?_
  refine Tks.out (l := [(8, some (some (.bool false))), (9, some (some (.bool false))), (10, some (some (.bool false)))]) ?_
  iterate 3
   refine tkV rfl (by kernel_rfl) (by kernel_rfl) (by kernel_rfl) (fun _ _ _ h => h) (Or.inl ⟨by kernel_rfl, fun W hSW => by go_simp; try with_reducible rfl⟩) (by assumption) ?_
   try simp only [List.getElem_toArray, List.getElem_cons_succ, List.getElem_cons_zero]
   try go_frame
  refine tkE ?_
  refine Tks.out (l := [(11, some none), (12, some none), (13, some none), (14, some none), (15, some none), (16, some none), (17, some none)]) ?_
  iterate 7
   refine tkT (v := ?_) rfl (by kernel_rfl) (by kernel_rfl) (by kernel_rfl) (fun _ _ _ h => h) (Or.inl ⟨by kernel_rfl, fun W hSW => by go_simp; try with_reducible rfl⟩) (by assumption) ?_
   try simp only [List.getElem_toArray, List.getElem_cons_succ, List.getElem_cons_zero]
   try go_frame
  refine tkE ?_
  refine Tks.out (l := [(18, some (some (.bool false))), (19, some (some (.bool false))), (20, some (some (.bool false)))]) ?_
  iterate 3
   refine tkV rfl (by kernel_rfl) (by kernel_rfl) (by kernel_rfl) (fun _ _ _ h => h) (Or.inl ⟨by kernel_rfl, fun W hSW => by go_simp; try with_reducible rfl⟩) (by assumption) ?_
   try simp only [List.getElem_toArray, List.getElem_cons_succ, List.getElem_cons_zero]
   try go_frame
  refine tkE ?_
  refine Tks.out (l := [(21, some none), (22, some none), (23, some none), (24, some none), (25, some none), (26, some none)]) ?_
  iterate 6
   refine tkT (v := ?_) rfl (by kernel_rfl) (by kernel_rfl) (by kernel_rfl) (fun _ _ _ h => h) (Or.inl ⟨by kernel_rfl, fun W hSW => by go_simp; try with_reducible rfl⟩) (by assumption) ?_
   try simp only [List.getElem_toArray, List.getElem_cons_succ, List.getElem_cons_zero]
   try go_frame
  refine tkE ?_
  refine Tks.out (l := [(27, some (some (.bool false))), (28, some (some (.bool false)))]) ?_
  iterate 2
   refine tkV rfl (by kernel_rfl) (by kernel_rfl) (by kernel_rfl) (fun _ _ _ h => h) (Or.inl ⟨by kernel_rfl, fun W hSW => by go_simp; try with_reducible rfl⟩) (by assumption) ?_
   try simp only [List.getElem_toArray, List.getElem_cons_succ, List.getElem_cons_zero]
   try go_frame
  refine tkE ?_
  refine wpAnyH_done (by kernel_rfl) ?_ _
  have pd0 := p0 w1.drew (Kept.refl _ w1).drew
  have pd1 := p1 w1.drew (Kept.refl _ w1).drew
  have pd2 := p2 w1.drew (Kept.refl _ w1).drew
  have pd3 := p3 w1.drew (Kept.refl _ w1).drew
  have pd4 := p4 w1.drew (Kept.refl _ w1).drew
  have pd5 := p5 w1.drew (Kept.refl _ w1).drew
  have pd6 := p6 w1.drew (Kept.refl _ w1).drew
  have pd7 := p7 w1.drew (Kept.refl _ w1).drew
  have pd8 := p8 w1.drew (Kept.refl _ w1).drew
  have pd9 := p9 w1.drew (Kept.refl _ w1).drew
  have pd10 := p10 w1.drew (Kept.refl _ w1).drew
  have pd11 := p11 w1.drew (Kept.refl _ w1).drew
  have pd12 := p12 w1.drew (Kept.refl _ w1).drew
  have pd13 := p13 w1.drew (Kept.refl _ w1).drew
  go_wp2_with fail
  refine (HGS.out _).mono ?_
  rintro e w2 ⟨rfl, hk2⟩
  have k12 : Kept (fun _ => False) w1 w2 := (Kept.refl _ w1).drew.trans hk2
  have e17 := r17 w2 k12
  clear pd0 pd1 pd2 pd3 pd4 pd5 pd6 pd7 pd8 pd9 pd10 pd11 pd12 pd13
  go_wp2
  go_ret2
  exact ⟨rfl, K1.out.trans k12⟩

set_option maxHeartbeats 4000000 in
set_option maxRecDepth 100000 in
theorem data_good (b : Nat) (av : Value) (h : Hs) (hg : GoodH h) (dst src : List UInt8) (hdst : dst.length = 6) (hsrc : src.length = 6) (ty : Int) (x : ByteArray) (hsz : x.size ≤ 1000000) (w : World) (hH : HostIn w b av h) (hst : h.state = 3) (hc : src = h.conc) (hmac : dst = h.mac) (n : Int) (y : ByteArray) (hgs : getS ⟨dst, src, ty, x⟩ = (n, y, true)) (hn : n = h.session) :
    Calls Tryz.prog 13 #[.pointer (some ⟨b, 0, none⟩), frV ⟨dst, src, ty, x⟩] w fun e w' => e = .returned (.tuple #[.string y, .bool true]) ∧ Kept (fun _ => False) w w' := by
  obtain ⟨x0, x1, x2, x3, x4, x5, hx⟩ := six_cells hg.mac
  obtain ⟨y0, y1, y2, y3, y4, y5, hy⟩ := six_cells hg.conc
  obtain ⟨d0, d1, d2, d3, d4, d5, hd⟩ := six_cells hdst
  obtain ⟨s0, s1, s2, s3, s4, s5, hs⟩ := six_cells hsrc
  have hfv : frV ⟨dst, src, ty, x⟩ = .agg #[.int .u8 d0, .int .u8 d1, .int .u8 d2, .int .u8 d3, .int .u8 d4, .int .u8 d5, .int .u8 s0, .int .u8 s1, .int .u8 s2, .int .u8 s3, .int .u8 s4, .int .u8 s5, .int .i64 ty, .string x] := by unfold frV frList; simp only []; rw [hd, hs]; rfl
  rw [hfv]
  have hE := mac_eq dst h.mac hdst hg.mac
  rw [hd, hx] at hE
  have hE3 := mac_eq src h.conc hsrc hg.conc
  rw [hs, hy] at hE3
  obtain ⟨w1, hw1⟩ : ∃ w1, w1 = w.alloc (.cells #[.int .u8 d0, .int .u8 d1, .int .u8 d2, .int .u8 d3, .int .u8 d4, .int .u8 d5, .int .u8 s0, .int .u8 s1, .int .u8 s2, .int .u8 s3, .int .u8 s4, .int .u8 s5, .int .i64 ty, .string x] 55) := ⟨_, rfl⟩
  have Hw1 := hid hw1
  have K1 : Hid (Kept (fun _ => False) w w1) := by rw [hw1]; exact (Kept.refl _ w).alloc _
  have O1 : Hid (Own14 w1 w.heap.size #[.int .u8 d0, .int .u8 d1, .int .u8 d2, .int .u8 d3, .int .u8 d4, .int .u8 d5, .int .u8 s0, .int .u8 s1, .int .u8 s2, .int .u8 s3, .int .u8 s4, .int .u8 s5, .int .i64 ty, .string x]) := by rw [hw1]; exact own14_new w _
  have HH := hid (fun W (hk : Kept (fun _ => False) w1 W) => hH.kept0 (K1.out.trans hk))
  have HN := hid (fun W (hk : Kept (fun _ => False) w1 W) => (HH.out W hk).notNone hg)
  have HC := hid (fun W (hk : Kept (fun _ => False) w1 W) => (HH.out W hk).cells hx hy)
  obtain ⟨p0, p1, p2, p3, p4, p5, p6, p7, p8, p9, p10, p11, p12, p13⟩ := cells14 (C := fun W => Kept (fun _ => False) w1 W) (X := w.heap.size) (fun W h => O1.out.kept h)
  have r0 := fun W (h : Kept (fun _ => False) w1 W) => (HC.out W h).c0
  have r1 := fun W (h : Kept (fun _ => False) w1 W) => (HC.out W h).c1
  have r2 := fun W (h : Kept (fun _ => False) w1 W) => (HC.out W h).c2
  have r3 := fun W (h : Kept (fun _ => False) w1 W) => (HC.out W h).c3
  have r4 := fun W (h : Kept (fun _ => False) w1 W) => (HC.out W h).c4
  have r5 := fun W (h : Kept (fun _ => False) w1 W) => (HC.out W h).c5
  have r11 := fun W (h : Kept (fun _ => False) w1 W) => (HC.out W h).c11
  have r12 := fun W (h : Kept (fun _ => False) w1 W) => (HC.out W h).c12
  have r13 := fun W (h : Kept (fun _ => False) w1 W) => (HC.out W h).c13
  have r14 := fun W (h : Kept (fun _ => False) w1 W) => (HC.out W h).c14
  have r15 := fun W (h : Kept (fun _ => False) w1 W) => (HC.out W h).c15
  have r16 := fun W (h : Kept (fun _ => False) w1 W) => (HC.out W h).c16
  have r10 := fun W (h : Kept (fun _ => False) w1 W) => (HC.out W h).c10
  have r17 := fun W (h : Kept (fun _ => False) w1 W) => (HC.out W h).c17
  have HGS := hid (fun W => getS_any ⟨dst, src, ty, x⟩ hdst hsrc hsz W)
  rw [hgs] at HGS
  simp only [] at HGS
  unfold frV frList at HGS
  simp only [] at HGS
  rw [hd, hs] at HGS
  change Hid (∀ W, Calls Tryz.prog 31 #[.agg #[.int .u8 d0, .int .u8 d1, .int .u8 d2, .int .u8 d3, .int .u8 d4, .int .u8 d5, .int .u8 s0, .int .u8 s1, .int .u8 s2, .int .u8 s3, .int .u8 s4, .int .u8 s5, .int .i64 ty, .string x]] W fun e w' => _) at HGS
  have n3 : (h.state != 3) = false := by simpa using hst
  rw [decide_eq_true hc] at hE3
  rw [decide_eq_true hmac] at hE
  have nn : (n != h.session) = false := by simpa using hn
  clear hfv hw1 hd hs hH hx hy hdst hsrc hg
  clear hst hc hmac hgs hn
  go_enter Tryz.func13, Tryz.ntmps13
  go_wp2_with fail
  rw [← Hw1.out]
  refine wp_region_held_drew (S := Kept (fun _ => False) w1) (by kernel_rfl) ((Kept.refl _ w1).drew) (fun hSd => ?_)
  refine wpAnyH_take (i := 0) (v := ?_) rfl (by kernel_rfl) (by kernel_rfl) (by kernel_rfl) (fun _ _ _ h => h) (Or.inl ⟨by kernel_rfl, fun W hSW => by go_simp; try with_reducible rfl⟩) (by assumption) ?_
  try simp only [List.getElem_toArray, List.getElem_cons_zero]
  try go_frame
  refine wpAnyH_ready (rs := [1]) (by kernel_rfl) (by simp) ?_
  refine AllReadyH.cons rfl (fun K hK => ?_) AllReadyH.nil
  go_simp
  refine (HN.out _ (Kept.refl _ w1).drew).mono ?_
  rintro e w' ⟨rfl, hw'⟩
  rw [hw']
  clear hw' w'
  refine hK.out _ _ ((Kept.refl _ w1).drew) (fun _ => ?_)
  clear hK K
  try simp only [List.getElem_toArray, List.getElem_cons_succ, List.getElem_cons_zero]
  try go_frame
  refine wpAnyH_take (i := 2) (v := (.bool false)) rfl (by kernel_rfl) (by kernel_rfl) (by kernel_rfl) (fun _ _ _ h => h) (Or.inl ⟨by kernel_rfl, fun W hSW => by go_simp; try with_reducible rfl⟩) (by assumption) ?_
  try simp only [List.getElem_toArray, List.getElem_cons_succ, List.getElem_cons_zero]
  try go_frame
  refine Tks.out (l := [(3, some none), (4, some none), (5, some none), (6, some none), (7, some none)]) ?_
  iterate 5
   refine tkT (v := ?_) rfl (by kernel_rfl) (by kernel_rfl) (by kernel_rfl) (fun _ _ _ h => h) (Or.inl ⟨by kernel_rfl, fun W hSW => by go_simp; try with_reducible rfl⟩) (by assumption) ?_
   try simp only [List.getElem_toArray, List.getElem_cons_succ, List.getElem_cons_zero]
   try go_frame
  refine tkE ?_
  refine Tks.out (l := [(8, some (some (.bool false))), (9, some (some (.bool false))), (10, some (some (.bool false)))]) ?_
  iterate 3
   refine tkV rfl (by kernel_rfl) (by kernel_rfl) (by kernel_rfl) (fun _ _ _ h => h) (Or.inl ⟨by kernel_rfl, fun W hSW => by go_simp; try with_reducible rfl⟩) (by assumption) ?_
   try simp only [List.getElem_toArray, List.getElem_cons_succ, List.getElem_cons_zero]
   try go_frame
  refine tkE ?_
  refine Tks.out (l := [(11, some none), (12, some none), (13, some none), (14, some none), (15, some none), (16, some none), (17, some none)]) ?_
  iterate 7
   refine tkT (v := ?_) rfl (by kernel_rfl) (by kernel_rfl) (by kernel_rfl) (fun _ _ _ h => h) (Or.inl ⟨by kernel_rfl, fun W hSW => by go_simp; try with_reducible rfl⟩) (by assumption) ?_
   try simp only [List.getElem_toArray, List.getElem_cons_succ, List.getElem_cons_zero]
   try go_frame
  refine tkE ?_
  refine Tks.out (l := [(18, some (some (.bool false))), (19, some (some (.bool false))), (20, some (some (.bool false)))]) ?_
  iterate 3
   refine tkV rfl (by kernel_rfl) (by kernel_rfl) (by kernel_rfl) (fun _ _ _ h => h) (Or.inl ⟨by kernel_rfl, fun W hSW => by go_simp; try with_reducible rfl⟩) (by assumption) ?_
   try simp only [List.getElem_toArray, List.getElem_cons_succ, List.getElem_cons_zero]
   try go_frame
  refine tkE ?_
  refine Tks.out (l := [(21, some none), (22, some none), (23, some none), (24, some none), (25, some none), (26, some none)]) ?_
  iterate 6
   refine tkT (v := ?_) rfl (by kernel_rfl) (by kernel_rfl) (by kernel_rfl) (fun _ _ _ h => h) (Or.inl ⟨by kernel_rfl, fun W hSW => by go_simp; try with_reducible rfl⟩) (by assumption) ?_
   try simp only [List.getElem_toArray, List.getElem_cons_succ, List.getElem_cons_zero]
   try go_frame
  refine tkE ?_
  refine Tks.out (l := [(27, some (some (.bool false))), (28, some (some (.bool false)))]) ?_
  iterate 2
   refine tkV rfl (by kernel_rfl) (by kernel_rfl) (by kernel_rfl) (fun _ _ _ h => h) (Or.inl ⟨by kernel_rfl, fun W hSW => by go_simp; try with_reducible rfl⟩) (by assumption) ?_
   try simp only [List.getElem_toArray, List.getElem_cons_succ, List.getElem_cons_zero]
   try go_frame
  refine tkE ?_
  refine wpAnyH_done (by kernel_rfl) ?_ _
  have pd0 := p0 w1.drew (Kept.refl _ w1).drew
  have pd1 := p1 w1.drew (Kept.refl _ w1).drew
  have pd2 := p2 w1.drew (Kept.refl _ w1).drew
  have pd3 := p3 w1.drew (Kept.refl _ w1).drew
  have pd4 := p4 w1.drew (Kept.refl _ w1).drew
  have pd5 := p5 w1.drew (Kept.refl _ w1).drew
  have pd6 := p6 w1.drew (Kept.refl _ w1).drew
  have pd7 := p7 w1.drew (Kept.refl _ w1).drew
  have pd8 := p8 w1.drew (Kept.refl _ w1).drew
  have pd9 := p9 w1.drew (Kept.refl _ w1).drew
  have pd10 := p10 w1.drew (Kept.refl _ w1).drew
  have pd11 := p11 w1.drew (Kept.refl _ w1).drew
  have pd12 := p12 w1.drew (Kept.refl _ w1).drew
  have pd13 := p13 w1.drew (Kept.refl _ w1).drew
  go_wp2_with fail
  refine (HGS.out _).mono ?_
  rintro e w2 ⟨rfl, hk2⟩
  have k12 : Kept (fun _ => False) w1 w2 := (Kept.refl _ w1).drew.trans hk2
  have e17 := r17 w2 k12
  clear pd0 pd1 pd2 pd3 pd4 pd5 pd6 pd7 pd8 pd9 pd10 pd11 pd12 pd13
  go_wp2
  go_ret2
  exact ⟨rfl, K1.out.trans k12⟩

theorem dataH_any (b : Nat) (av : Value) (h : Hs) (hg : GoodH h) (f : Fr) (hdst : f.dst.length = 6) (hsrc : f.src.length = 6) (hsz : f.data.size ≤ 1000000) (w : World) (hH : HostIn w b av h) :
    Calls Tryz.prog 13 #[.pointer (some ⟨b, 0, none⟩), frV f] w fun e w' => e = .returned (.tuple #[.string (dataH h f).1, .bool (dataH h f).2]) ∧ Kept (fun _ => False) w w' := by
  obtain ⟨dst, src, ty, x⟩ := f
  simp only [] at hdst hsrc hsz
  unfold dataH
  simp only []
  by_cases hst : h.state = 3
  · by_cases hc : src = h.conc
    · by_cases hmac : dst = h.mac
      · obtain ⟨n, y, ok, hgs⟩ : ∃ n y ok, getS ⟨dst, src, ty, x⟩ = (n, y, ok) := ⟨_, _, _, rfl⟩
        rw [hgs]
        simp only []
        cases ok with
        | false =>
          rw [if_neg (by simp)]
          exact data_unread b av h hg dst src hdst hsrc ty x hsz w hH hst hc hmac n y hgs
        | true =>
          by_cases hn : n = h.session
          · rw [if_pos ⟨hst, hc, hmac, rfl, hn⟩]
            exact data_good b av h hg dst src hdst hsrc ty x hsz w hH hst hc hmac n y hgs hn
          · rw [if_neg (fun e => hn e.2.2.2.2)]
            exact data_ses b av h hg dst src hdst hsrc ty x hsz w hH hst hc hmac n y hgs hn
      · rw [if_neg (fun e => hmac e.2.2.1)]
        exact data_dst b av h hg dst src hdst hsrc ty x hsz w hH hst hc hmac
    · rw [if_neg (fun e => hc e.2.1)]
      exact data_src b av h hg dst src hdst hsrc ty x hsz w hH hst hc
  · rw [if_neg (fun e => hst e.1)]
    exact data_state b av h hg dst src hdst hsrc ty x hsz w hH hst
end Go.Proofs.YtffnppfoofifgaaGreat
