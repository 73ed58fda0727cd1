/- Host.Take at every frame, where it answers nothing and the host stays: a theorem for each way through it. -/
import Derived.Test.YtffnppfoofifgaaGreatTk
import Derived.Test.YtffnppfoofifgaaGreatHsUp
import Derived.Test.YtffnppfoofifgaaGreatEtGet
namespace Go.Proofs.YtffnppfoofifgaaGreat
open Go.RowKit

set_option maxHeartbeats 4000000 in
set_option maxRecDepth 100000 in
theorem take_else {S : Nat → Prop} (b : Nat) (h : Hs) (hg : GoodH h) (dst src : List UInt8) (hdst : dst.length = 6) (hsrc : src.length = 6) (ty : Int) (x : ByteArray) (_hsz : x.size ≤ 1000000) (w : World) (hA : HAt S w b h) (hmac : ¬ dst = h.mac) :
    Calls Tryz.prog 17 #[.pointer (some ⟨b, 0, none⟩), frV ⟨dst, src, ty, x⟩] w fun e w' => ∃ u, e = .returned u ∧ HOut S w w' b h u [] := by
  obtain ⟨av, hH, hS⟩ := id hA
  obtain ⟨x0, x1, x2, x3, x4, x5, hx⟩ := six_cells hg.mac
  obtain ⟨y0, y1, y2, y3, y4, y5, hy⟩ := six_cells hg.conc
  obtain ⟨d0, d1, d2, d3, d4, d5, hd⟩ := six_cells hdst
  obtain ⟨s0, s1, s2, s3, s4, s5, hs⟩ := six_cells hsrc
  have hfv : frV ⟨dst, src, ty, x⟩ = .agg #[.int .u8 d0, .int .u8 d1, .int .u8 d2, .int .u8 d3, .int .u8 d4, .int .u8 d5, .int .u8 s0, .int .u8 s1, .int .u8 s2, .int .u8 s3, .int .u8 s4, .int .u8 s5, .int .i64 ty, .string x] := by unfold frV frList; simp only []; rw [hd, hs]; rfl
  rw [hfv]
  have hE := mac_eq dst h.mac hdst hg.mac
  rw [hd, hx, decide_eq_false hmac] at hE
  have hE3 := mac_eq src h.conc hsrc hg.conc
  rw [hs, hy] at hE3
  obtain ⟨w1, hw1⟩ : ∃ w1, w1 = w.alloc (.cells #[.int .u8 d0, .int .u8 d1, .int .u8 d2, .int .u8 d3, .int .u8 d4, .int .u8 d5, .int .u8 s0, .int .u8 s1, .int .u8 s2, .int .u8 s3, .int .u8 s4, .int .u8 s5, .int .i64 ty, .string x] 55) := ⟨_, rfl⟩
  have Hw1 := hid hw1
  have K1 : Hid (Kept (fun _ => False) w w1) := by rw [hw1]; exact (Kept.refl _ w).alloc _
  have O1 : Hid (Own14 w1 w.heap.size #[.int .u8 d0, .int .u8 d1, .int .u8 d2, .int .u8 d3, .int .u8 d4, .int .u8 d5, .int .u8 s0, .int .u8 s1, .int .u8 s2, .int .u8 s3, .int .u8 s4, .int .u8 s5, .int .i64 ty, .string x]) := by rw [hw1]; exact own14_new w _
  have HH := hid (fun W (hk : Kept (fun _ => False) w1 W) => hH.kept0 (K1.out.trans hk))
  have HN := hid (fun W (hk : Kept (fun _ => False) w1 W) => (HH.out W hk).notNone hg)
  have HC := hid (fun W (hk : Kept (fun _ => False) w1 W) => (HH.out W hk).cells hx hy)
  obtain ⟨p0, p1, p2, p3, p4, p5, p6, p7, p8, p9, p10, p11, p12, p13⟩ := cells14 (C := fun W => Kept (fun _ => False) w1 W) (X := w.heap.size) (fun W h => O1.out.kept h)
  have r0 := fun W (h : Kept (fun _ => False) w1 W) => (HC.out W h).c0
  have r1 := fun W (h : Kept (fun _ => False) w1 W) => (HC.out W h).c1
  have r2 := fun W (h : Kept (fun _ => False) w1 W) => (HC.out W h).c2
  have r3 := fun W (h : Kept (fun _ => False) w1 W) => (HC.out W h).c3
  have r4 := fun W (h : Kept (fun _ => False) w1 W) => (HC.out W h).c4
  have r5 := fun W (h : Kept (fun _ => False) w1 W) => (HC.out W h).c5
  have HNX := hid (fun W (hk : Kept (fun _ => False) w1 W) => HOut.nil (hA.next.still (K1.out.trans hk)))
  clear hfv hw1 hd hs hA hH hS hx hy hdst hsrc hg hmac
  go_enter Tryz.func17, Tryz.ntmps17
  go_wp2_with fail
  rw [← Hw1.out]
  refine wp_region_held_drew (S := Kept (fun _ => False) w1) (by kernel_rfl) ((Kept.refl _ w1).drew) (fun hSd => ?_)
  refine wpAnyH_take (i := 0) (v := ?_) rfl (by kernel_rfl) (by kernel_rfl) (by kernel_rfl) (fun _ _ _ h => h) (Or.inl ⟨by kernel_rfl, fun W hSW => by go_simp; try with_reducible rfl⟩) (by assumption) ?_
  try simp only [List.getElem_toArray, List.getElem_cons_zero]
  try go_frame
  refine wpAnyH_ready (rs := [1]) (by kernel_rfl) (by simp) ?_
  refine AllReadyH.cons rfl (fun K hK => ?_) AllReadyH.nil
  go_simp
  refine (HN.out _ (Kept.refl _ w1).drew).mono ?_
  rintro e w' ⟨rfl, hw'⟩
  rw [hw']
  clear hw' w'
  refine hK.out _ _ ((Kept.refl _ w1).drew) (fun _ => ?_)
  clear hK K
  try simp only [List.getElem_toArray, List.getElem_cons_succ, List.getElem_cons_zero]
  try go_frame
  refine wpAnyH_take (i := 2) (v := (.bool false)) rfl (by kernel_rfl) (by kernel_rfl) (by kernel_rfl) (fun _ _ _ h => h) (Or.inl ⟨by kernel_rfl, fun W hSW => by go_simp; try with_reducible rfl⟩) (by assumption) ?_
  try simp only [List.getElem_toArray, List.getElem_cons_succ, List.getElem_cons_zero]
  try go_frame
  refine Tks.out (l := [(3, some none), (4, some none), (5, some none), (6, some none), (7, some none), (8, some none)]) ?_
  iterate 6
   refine tkT (v := ?_) rfl (by kernel_rfl) (by kernel_rfl) (by kernel_rfl) (fun _ _ _ h => h) (Or.inl ⟨by kernel_rfl, fun W hSW => by go_simp; try with_reducible rfl⟩) (by assumption) ?_
   try simp only [List.getElem_toArray, List.getElem_cons_succ, List.getElem_cons_zero]
   try go_frame
  refine tkE ?_
  refine Tks.out (l := [(9, some (some (.bool true))), (10, some (some (.bool true)))]) ?_
  iterate 2
   refine tkV rfl (by kernel_rfl) (by kernel_rfl) (by kernel_rfl) (fun _ _ _ h => h) (Or.inl ⟨by kernel_rfl, fun W hSW => by go_simp; try with_reducible rfl⟩) (by assumption) ?_
   try simp only [List.getElem_toArray, List.getElem_cons_succ, List.getElem_cons_zero]
   try go_frame
  refine tkE ?_
  refine wpAnyH_done (by kernel_rfl) ?_ _
  go_wp2
  go_ret
  exact ⟨_, rfl, HNX.out _ (Kept.refl _ w1).drew⟩

set_option maxHeartbeats 4000000 in
set_option maxRecDepth 100000 in
theorem take_unread {S : Nat → Prop} (b : Nat) (h : Hs) (hg : GoodH h) (dst src : List UInt8) (hdst : dst.length = 6) (hsrc : src.length = 6) (ty : Int) (x : ByteArray) (hsz : x.size ≤ 1000000) (code ses : Nat) (D : List UInt8) (l : List Tg) (hge : getE ⟨dst, src, ty, x⟩ = (⟨code, ses, D⟩, l, false)) (w : World) (hA : HAt S w b h) (hmac : dst = h.mac) :
    Calls Tryz.prog 17 #[.pointer (some ⟨b, 0, none⟩), frV ⟨dst, src, ty, x⟩] w fun e w' => ∃ u, e = .returned u ∧ HOut S w w' b h u [] := by
  obtain ⟨av, hH, hS⟩ := id hA
  obtain ⟨x0, x1, x2, x3, x4, x5, hx⟩ := six_cells hg.mac
  obtain ⟨y0, y1, y2, y3, y4, y5, hy⟩ := six_cells hg.conc
  obtain ⟨d0, d1, d2, d3, d4, d5, hd⟩ := six_cells hdst
  obtain ⟨s0, s1, s2, s3, s4, s5, hs⟩ := six_cells hsrc
  have hfv : frV ⟨dst, src, ty, x⟩ = .agg #[.int .u8 d0, .int .u8 d1, .int .u8 d2, .int .u8 d3, .int .u8 d4, .int .u8 d5, .int .u8 s0, .int .u8 s1, .int .u8 s2, .int .u8 s3, .int .u8 s4, .int .u8 s5, .int .i64 ty, .string x] := by unfold frV frList; simp only []; rw [hd, hs]; rfl
  rw [hfv]
  have hE := mac_eq dst h.mac hdst hg.mac
  rw [hd, hx, decide_eq_true hmac] at hE
  have hE3 := mac_eq src h.conc hsrc hg.conc
  rw [hs, hy] at hE3
  obtain ⟨w1, hw1⟩ : ∃ w1, w1 = w.alloc (.cells #[.int .u8 d0, .int .u8 d1, .int .u8 d2, .int .u8 d3, .int .u8 d4, .int .u8 d5, .int .u8 s0, .int .u8 s1, .int .u8 s2, .int .u8 s3, .int .u8 s4, .int .u8 s5, .int .i64 ty, .string x] 55) := ⟨_, rfl⟩
  have Hw1 := hid hw1
  have K1 : Hid (Kept (fun _ => False) w w1) := by rw [hw1]; exact (Kept.refl _ w).alloc _
  have O1 : Hid (Own14 w1 w.heap.size #[.int .u8 d0, .int .u8 d1, .int .u8 d2, .int .u8 d3, .int .u8 d4, .int .u8 d5, .int .u8 s0, .int .u8 s1, .int .u8 s2, .int .u8 s3, .int .u8 s4, .int .u8 s5, .int .i64 ty, .string x]) := by rw [hw1]; exact own14_new w _
  have HH := hid (fun W (hk : Kept (fun _ => False) w1 W) => hH.kept0 (K1.out.trans hk))
  have HN := hid (fun W (hk : Kept (fun _ => False) w1 W) => (HH.out W hk).notNone hg)
  have HC := hid (fun W (hk : Kept (fun _ => False) w1 W) => (HH.out W hk).cells hx hy)
  obtain ⟨p0, p1, p2, p3, p4, p5, p6, p7, p8, p9, p10, p11, p12, p13⟩ := cells14 (C := fun W => Kept (fun _ => False) w1 W) (X := w.heap.size) (fun W h => O1.out.kept h)
  have r0 := fun W (h : Kept (fun _ => False) w1 W) => (HC.out W h).c0
  have r1 := fun W (h : Kept (fun _ => False) w1 W) => (HC.out W h).c1
  have r2 := fun W (h : Kept (fun _ => False) w1 W) => (HC.out W h).c2
  have r3 := fun W (h : Kept (fun _ => False) w1 W) => (HC.out W h).c3
  have r4 := fun W (h : Kept (fun _ => False) w1 W) => (HC.out W h).c4
  have r5 := fun W (h : Kept (fun _ => False) w1 W) => (HC.out W h).c5
  have HNX := hid (fun W (hk : Kept (fun _ => False) w1 W) => HOut.nil (hA.next.still (K1.out.trans hk)))
  have HGE := hid (fun W => getE_any ⟨dst, src, ty, x⟩ hdst hsrc hsz W)
  rw [hge] at HGE
  simp only [] at HGE
  unfold discV frV frList at HGE
  simp only [] at HGE
  rw [hd, hs] at HGE
  change Hid (∀ W, Calls Tryz.prog 35 #[.agg #[.int .u8 d0, .int .u8 d1, .int .u8 d2, .int .u8 d3, .int .u8 d4, .int .u8 d5, .int .u8 s0, .int .u8 s1, .int .u8 s2, .int .u8 s3, .int .u8 s4, .int .u8 s5, .int .i64 ty, .string x]] W fun e w' => _) at HGE
  clear hfv hw1 hd hs hA hH hS hx hy hdst hsrc hge hg hmac
  go_enter Tryz.func17, Tryz.ntmps17
  go_wp2_with fail
  rw [← Hw1.out]
  refine wp_region_held_drew (S := Kept (fun _ => False) w1) (by kernel_rfl) ((Kept.refl _ w1).drew) (fun hSd => ?_)
  refine wpAnyH_take (i := 0) (v := ?_) rfl (by kernel_rfl) (by kernel_rfl) (by kernel_rfl) (fun _ _ _ h => h) (Or.inl ⟨by kernel_rfl, fun W hSW => by go_simp; try with_reducible rfl⟩) (by assumption) ?_
  try simp only [List.getElem_toArray, List.getElem_cons_zero]
  try go_frame
  refine wpAnyH_ready (rs := [1]) (by kernel_rfl) (by simp) ?_
  refine AllReadyH.cons rfl (fun K hK => ?_) AllReadyH.nil
  go_simp
  refine (HN.out _ (Kept.refl _ w1).drew).mono ?_
  rintro e w' ⟨rfl, hw'⟩
  rw [hw']
  clear hw' w'
  refine hK.out _ _ ((Kept.refl _ w1).drew) (fun _ => ?_)
  clear hK K
  try simp only [List.getElem_toArray, List.getElem_cons_succ, List.getElem_cons_zero]
  try go_frame
  refine wpAnyH_take (i := 2) (v := (.bool false)) rfl (by kernel_rfl) (by kernel_rfl) (by kernel_rfl) (fun _ _ _ h => h) (Or.inl ⟨by kernel_rfl, fun W hSW => by go_simp; try with_reducible rfl⟩) (by assumption) ?_
  try simp only [List.getElem_toArray, List.getElem_cons_succ, List.getElem_cons_zero]
  try go_frame
  refine Tks.out (l := [(3, some none), (4, some none), (5, some none), (6, some none), (7, some none), (8, some none)]) ?_
  iterate 6
   refine tkT (v := ?_) rfl (by kernel_rfl) (by kernel_rfl) (by kernel_rfl) (fun _ _ _ h => h) (Or.inl ⟨by kernel_rfl, fun W hSW => by go_simp; try with_reducible rfl⟩) (by assumption) ?_
   try simp only [List.getElem_toArray, List.getElem_cons_succ, List.getElem_cons_zero]
   try go_frame
  refine tkE ?_
  refine Tks.out (l := [(9, some (some (.bool false))), (10, some (some (.bool false)))]) ?_
  iterate 2
   refine tkV rfl (by kernel_rfl) (by kernel_rfl) (by kernel_rfl) (fun _ _ _ h => h) (Or.inl ⟨by kernel_rfl, fun W hSW => by go_simp; try with_reducible rfl⟩) (by assumption) ?_
   try simp only [List.getElem_toArray, List.getElem_cons_succ, List.getElem_cons_zero]
   try go_frame
  refine tkE ?_
  refine wpAnyH_done (by kernel_rfl) ?_ _
  have pd0 := p0 w1.drew (Kept.refl _ w1).drew
  have pd1 := p1 w1.drew (Kept.refl _ w1).drew
  have pd2 := p2 w1.drew (Kept.refl _ w1).drew
  have pd3 := p3 w1.drew (Kept.refl _ w1).drew
  have pd4 := p4 w1.drew (Kept.refl _ w1).drew
  have pd5 := p5 w1.drew (Kept.refl _ w1).drew
  have pd6 := p6 w1.drew (Kept.refl _ w1).drew
  have pd7 := p7 w1.drew (Kept.refl _ w1).drew
  have pd8 := p8 w1.drew (Kept.refl _ w1).drew
  have pd9 := p9 w1.drew (Kept.refl _ w1).drew
  have pd10 := p10 w1.drew (Kept.refl _ w1).drew
  have pd11 := p11 w1.drew (Kept.refl _ w1).drew
  have pd12 := p12 w1.drew (Kept.refl _ w1).drew
  have pd13 := p13 w1.drew (Kept.refl _ w1).drew
  go_wp2_with fail
  refine (HGE.out _).mono ?_
  rintro e w2 ⟨pv4, cv4, rfl, ho2, hk2⟩
  clear pd0 pd1 pd2 pd3 pd4 pd5 pd6 pd7 pd8 pd9 pd10 pd11 pd12 pd13
  obtain ⟨w4, hw4⟩ : ∃ w4, w4 = w2.alloc (.cells #[.int .i64 (code : Int), .int .i64 (ses : Int), .string ⟨D.toArray⟩] 82) := ⟨_, rfl⟩
  have Hw4 := hid hw4
  have k14 : Kept (fun _ => False) w1 w4 := by rw [hw4]; exact ((Kept.refl _ w1).drew.trans hk2).alloc _
  obtain ⟨z0, z1, z2⟩ : Box3 w4 w2.heap.size (.int .i64 (code : Int)) (.int .i64 (ses : Int)) (.string ⟨D.toArray⟩) := by rw [hw4]; exact box3_new w2 _ _ _ _
  have V4 : Hid (TagsAt w4 (.slice pv4 l.length cv4) l) := by rw [hw4]; exact (OwnT.kept (show OwnT w2 w1.heap.size _ l from ho2) ((Kept.refl _ w2).alloc _)).tags
  have Z0 : ∀ W, Kept (fun _ => False) w4 W → W.cell? ⟨w2.heap.size, 0, none⟩ = some (.int .i64 (code : Int)) := fun W h => (h.cell (p := ⟨w2.heap.size, 0, none⟩) (lt_of_cell z0) id).trans z0
  have Z1 : ∀ W, Kept (fun _ => False) w4 W → W.cell? ⟨w2.heap.size, 1, none⟩ = some (.int .i64 (ses : Int)) := fun W h => (h.cell (p := ⟨w2.heap.size, 1, none⟩) (lt_of_cell z1) id).trans z1
  have R10 := fun W (hW : Kept (fun _ => False) w4 W) => (HC.out W (k14.trans hW)).c10
  have R17 := fun W (hW : Kept (fun _ => False) w4 W) => (HC.out W (k14.trans hW)).c17
  have R11 := fun W (hW : Kept (fun _ => False) w4 W) => (HC.out W (k14.trans hW)).c11
  have R12 := fun W (hW : Kept (fun _ => False) w4 W) => (HC.out W (k14.trans hW)).c12
  have R13 := fun W (hW : Kept (fun _ => False) w4 W) => (HC.out W (k14.trans hW)).c13
  have R14 := fun W (hW : Kept (fun _ => False) w4 W) => (HC.out W (k14.trans hW)).c14
  have R15 := fun W (hW : Kept (fun _ => False) w4 W) => (HC.out W (k14.trans hW)).c15
  have R16 := fun W (hW : Kept (fun _ => False) w4 W) => (HC.out W (k14.trans hW)).c16
  have P6 : ∀ W, Kept (fun _ => False) w4 W → W.cell? ⟨w.heap.size, 6, none⟩ = some (.int .u8 s0) := fun W hW => p6 W (k14.trans hW)
  have P7 : ∀ W, Kept (fun _ => False) w4 W → W.cell? ⟨w.heap.size, 7, none⟩ = some (.int .u8 s1) := fun W hW => p7 W (k14.trans hW)
  have P8 : ∀ W, Kept (fun _ => False) w4 W → W.cell? ⟨w.heap.size, 8, none⟩ = some (.int .u8 s2) := fun W hW => p8 W (k14.trans hW)
  have P9 : ∀ W, Kept (fun _ => False) w4 W → W.cell? ⟨w.heap.size, 9, none⟩ = some (.int .u8 s3) := fun W hW => p9 W (k14.trans hW)
  have P10 : ∀ W, Kept (fun _ => False) w4 W → W.cell? ⟨w.heap.size, 10, none⟩ = some (.int .u8 s4) := fun W hW => p10 W (k14.trans hW)
  have P11 : ∀ W, Kept (fun _ => False) w4 W → W.cell? ⟨w.heap.size, 11, none⟩ = some (.int .u8 s5) := fun W hW => p11 W (k14.trans hW)
  clear ho2 hk2 HGE hw4 p0 p1 p2 p3 p4 p5 p6 p7 p8 p9 p10 p11 p12 p13 r0 r1 r2 r3 r4 r5
  go_wp2
  go_ret
  have := HNX.out w4 k14
  rw [Hw4.out] at this
  exact ⟨_, rfl, this⟩

set_option maxHeartbeats 4000000 in
set_option maxRecDepth 100000 in
theorem take_other {S : Nat → Prop} (b : Nat) (h : Hs) (hg : GoodH h) (dst src : List UInt8) (hdst : dst.length = 6) (hsrc : src.length = 6) (ty : Int) (x : ByteArray) (hsz : x.size ≤ 1000000) (code ses : Nat) (D : List UInt8) (l : List Tg) (hge : getE ⟨dst, src, ty, x⟩ = (⟨code, ses, D⟩, l, true)) (hfew : FewT l) (w : World) (hA : HAt S w b h) (hmac : dst = h.mac) (h1 : ¬ h.state = 1) (h2 : ¬ h.state = 2) (h3 : ¬ h.state = 3) :
    Calls Tryz.prog 17 #[.pointer (some ⟨b, 0, none⟩), frV ⟨dst, src, ty, x⟩] w fun e w' => ∃ u, e = .returned u ∧ HOut S w w' b h u [] := by
  obtain ⟨av, hH, hS⟩ := id hA
  obtain ⟨x0, x1, x2, x3, x4, x5, hx⟩ := six_cells hg.mac
  obtain ⟨y0, y1, y2, y3, y4, y5, hy⟩ := six_cells hg.conc
  obtain ⟨d0, d1, d2, d3, d4, d5, hd⟩ := six_cells hdst
  obtain ⟨s0, s1, s2, s3, s4, s5, hs⟩ := six_cells hsrc
  have hfv : frV ⟨dst, src, ty, x⟩ = .agg #[.int .u8 d0, .int .u8 d1, .int .u8 d2, .int .u8 d3, .int .u8 d4, .int .u8 d5, .int .u8 s0, .int .u8 s1, .int .u8 s2, .int .u8 s3, .int .u8 s4, .int .u8 s5, .int .i64 ty, .string x] := by unfold frV frList; simp only []; rw [hd, hs]; rfl
  rw [hfv]
  have hE := mac_eq dst h.mac hdst hg.mac
  rw [hd, hx, decide_eq_true hmac] at hE
  have hE3 := mac_eq src h.conc hsrc hg.conc
  rw [hs, hy] at hE3
  obtain ⟨w1, hw1⟩ : ∃ w1, w1 = w.alloc (.cells #[.int .u8 d0, .int .u8 d1, .int .u8 d2, .int .u8 d3, .int .u8 d4, .int .u8 d5, .int .u8 s0, .int .u8 s1, .int .u8 s2, .int .u8 s3, .int .u8 s4, .int .u8 s5, .int .i64 ty, .string x] 55) := ⟨_, rfl⟩
  have Hw1 := hid hw1
  have K1 : Hid (Kept (fun _ => False) w w1) := by rw [hw1]; exact (Kept.refl _ w).alloc _
  have O1 : Hid (Own14 w1 w.heap.size #[.int .u8 d0, .int .u8 d1, .int .u8 d2, .int .u8 d3, .int .u8 d4, .int .u8 d5, .int .u8 s0, .int .u8 s1, .int .u8 s2, .int .u8 s3, .int .u8 s4, .int .u8 s5, .int .i64 ty, .string x]) := by rw [hw1]; exact own14_new w _
  have HH := hid (fun W (hk : Kept (fun _ => False) w1 W) => hH.kept0 (K1.out.trans hk))
  have HN := hid (fun W (hk : Kept (fun _ => False) w1 W) => (HH.out W hk).notNone hg)
  have HC := hid (fun W (hk : Kept (fun _ => False) w1 W) => (HH.out W hk).cells hx hy)
  obtain ⟨p0, p1, p2, p3, p4, p5, p6, p7, p8, p9, p10, p11, p12, p13⟩ := cells14 (C := fun W => Kept (fun _ => False) w1 W) (X := w.heap.size) (fun W h => O1.out.kept h)
  have r0 := fun W (h : Kept (fun _ => False) w1 W) => (HC.out W h).c0
  have r1 := fun W (h : Kept (fun _ => False) w1 W) => (HC.out W h).c1
  have r2 := fun W (h : Kept (fun _ => False) w1 W) => (HC.out W h).c2
  have r3 := fun W (h : Kept (fun _ => False) w1 W) => (HC.out W h).c3
  have r4 := fun W (h : Kept (fun _ => False) w1 W) => (HC.out W h).c4
  have r5 := fun W (h : Kept (fun _ => False) w1 W) => (HC.out W h).c5
  have HNX := hid (fun W (hk : Kept (fun _ => False) w1 W) => HOut.nil (hA.next.still (K1.out.trans hk)))
  have HGE := hid (fun W => getE_any ⟨dst, src, ty, x⟩ hdst hsrc hsz W)
  rw [hge] at HGE
  simp only [] at HGE
  unfold discV frV frList at HGE
  simp only [] at HGE
  rw [hd, hs] at HGE
  change Hid (∀ W, Calls Tryz.prog 35 #[.agg #[.int .u8 d0, .int .u8 d1, .int .u8 d2, .int .u8 d3, .int .u8 d4, .int .u8 d5, .int .u8 s0, .int .u8 s1, .int .u8 s2, .int .u8 s3, .int .u8 s4, .int .u8 s5, .int .i64 ty, .string x]] W fun e w' => _) at HGE
  have n1 : (h.state == 1) = false := by simpa using h1
  have n2 : (h.state == 2) = false := by simpa using h2
  have n3 : (h.state == 3) = false := by simpa using h3
  clear h1 h2 h3
  have HMJ := hid (fun W (hk : Kept (fun _ => False) w1 W) (p : Option Addr) (c : Nat) (hv : TagsAt W (.slice p l.length c) l) => isMine_any b av h hg (.slice p l.length c) l hfew W (HH.out W hk) hv)
  have HA := hid hA
  have HG := hid hg
  have HW := hid hfew
  have HX := hid hx
  have HY := hid hy
  have HS := hid hS
  clear hfv hw1 hd hs hA hH hS hx hy hdst hsrc hge hg hmac
  go_enter Tryz.func17, Tryz.ntmps17
  go_wp2_with fail
  rw [← Hw1.out]
  refine wp_region_held_drew (S := Kept (fun _ => False) w1) (by kernel_rfl) ((Kept.refl _ w1).drew) (fun hSd => ?_)
  refine wpAnyH_take (i := 0) (v := ?_) rfl (by kernel_rfl) (by kernel_rfl) (by kernel_rfl) (fun _ _ _ h => h) (Or.inl ⟨by kernel_rfl, fun W hSW => by go_simp; try with_reducible rfl⟩) (by assumption) ?_
  try simp only [List.getElem_toArray, List.getElem_cons_zero]
  try go_frame
  refine wpAnyH_ready (rs := [1]) (by kernel_rfl) (by simp) ?_
  refine AllReadyH.cons rfl (fun K hK => ?_) AllReadyH.nil
  go_simp
  refine (HN.out _ (Kept.refl _ w1).drew).mono ?_
  rintro e w' ⟨rfl, hw'⟩
  rw [hw']
  clear hw' w'
  refine hK.out _ _ ((Kept.refl _ w1).drew) (fun _ => ?_)
  clear hK K
  try simp only [List.getElem_toArray, List.getElem_cons_succ, List.getElem_cons_zero]
  try go_frame
  refine wpAnyH_take (i := 2) (v := (.bool false)) rfl (by kernel_rfl) (by kernel_rfl) (by kernel_rfl) (fun _ _ _ h => h) (Or.inl ⟨by kernel_rfl, fun W hSW => by go_simp; try with_reducible rfl⟩) (by assumption) ?_
  try simp only [List.getElem_toArray, List.getElem_cons_succ, List.getElem_cons_zero]
  try go_frame
  refine Tks.out (l := [(3, some none), (4, some none), (5, some none), (6, some none), (7, some none), (8, some none)]) ?_
  iterate 6
   refine tkT (v := ?_) rfl (by kernel_rfl) (by kernel_rfl) (by kernel_rfl) (fun _ _ _ h => h) (Or.inl ⟨by kernel_rfl, fun W hSW => by go_simp; try with_reducible rfl⟩) (by assumption) ?_
   try simp only [List.getElem_toArray, List.getElem_cons_succ, List.getElem_cons_zero]
   try go_frame
  refine tkE ?_
  refine Tks.out (l := [(9, some (some (.bool false))), (10, some (some (.bool false)))]) ?_
  iterate 2
   refine tkV rfl (by kernel_rfl) (by kernel_rfl) (by kernel_rfl) (fun _ _ _ h => h) (Or.inl ⟨by kernel_rfl, fun W hSW => by go_simp; try with_reducible rfl⟩) (by assumption) ?_
   try simp only [List.getElem_toArray, List.getElem_cons_succ, List.getElem_cons_zero]
   try go_frame
  refine tkE ?_
  refine wpAnyH_done (by kernel_rfl) ?_ _
  have pd0 := p0 w1.drew (Kept.refl _ w1).drew
  have pd1 := p1 w1.drew (Kept.refl _ w1).drew
  have pd2 := p2 w1.drew (Kept.refl _ w1).drew
  have pd3 := p3 w1.drew (Kept.refl _ w1).drew
  have pd4 := p4 w1.drew (Kept.refl _ w1).drew
  have pd5 := p5 w1.drew (Kept.refl _ w1).drew
  have pd6 := p6 w1.drew (Kept.refl _ w1).drew
  have pd7 := p7 w1.drew (Kept.refl _ w1).drew
  have pd8 := p8 w1.drew (Kept.refl _ w1).drew
  have pd9 := p9 w1.drew (Kept.refl _ w1).drew
  have pd10 := p10 w1.drew (Kept.refl _ w1).drew
  have pd11 := p11 w1.drew (Kept.refl _ w1).drew
  have pd12 := p12 w1.drew (Kept.refl _ w1).drew
  have pd13 := p13 w1.drew (Kept.refl _ w1).drew
  go_wp2_with fail
  refine (HGE.out _).mono ?_
  rintro e w2 ⟨pv4, cv4, rfl, ho2, hk2⟩
  clear pd0 pd1 pd2 pd3 pd4 pd5 pd6 pd7 pd8 pd9 pd10 pd11 pd12 pd13
  obtain ⟨w4, hw4⟩ : ∃ w4, w4 = w2.alloc (.cells #[.int .i64 (code : Int), .int .i64 (ses : Int), .string ⟨D.toArray⟩] 82) := ⟨_, rfl⟩
  have Hw4 := hid hw4
  have k14 : Kept (fun _ => False) w1 w4 := by rw [hw4]; exact ((Kept.refl _ w1).drew.trans hk2).alloc _
  obtain ⟨z0, z1, z2⟩ : Box3 w4 w2.heap.size (.int .i64 (code : Int)) (.int .i64 (ses : Int)) (.string ⟨D.toArray⟩) := by rw [hw4]; exact box3_new w2 _ _ _ _
  have V4 : Hid (TagsAt w4 (.slice pv4 l.length cv4) l) := by rw [hw4]; exact (OwnT.kept (show OwnT w2 w1.heap.size _ l from ho2) ((Kept.refl _ w2).alloc _)).tags
  have Z0 : ∀ W, Kept (fun _ => False) w4 W → W.cell? ⟨w2.heap.size, 0, none⟩ = some (.int .i64 (code : Int)) := fun W h => (h.cell (p := ⟨w2.heap.size, 0, none⟩) (lt_of_cell z0) id).trans z0
  have Z1 : ∀ W, Kept (fun _ => False) w4 W → W.cell? ⟨w2.heap.size, 1, none⟩ = some (.int .i64 (ses : Int)) := fun W h => (h.cell (p := ⟨w2.heap.size, 1, none⟩) (lt_of_cell z1) id).trans z1
  have R10 := fun W (hW : Kept (fun _ => False) w4 W) => (HC.out W (k14.trans hW)).c10
  have R17 := fun W (hW : Kept (fun _ => False) w4 W) => (HC.out W (k14.trans hW)).c17
  have R11 := fun W (hW : Kept (fun _ => False) w4 W) => (HC.out W (k14.trans hW)).c11
  have R12 := fun W (hW : Kept (fun _ => False) w4 W) => (HC.out W (k14.trans hW)).c12
  have R13 := fun W (hW : Kept (fun _ => False) w4 W) => (HC.out W (k14.trans hW)).c13
  have R14 := fun W (hW : Kept (fun _ => False) w4 W) => (HC.out W (k14.trans hW)).c14
  have R15 := fun W (hW : Kept (fun _ => False) w4 W) => (HC.out W (k14.trans hW)).c15
  have R16 := fun W (hW : Kept (fun _ => False) w4 W) => (HC.out W (k14.trans hW)).c16
  have P6 : ∀ W, Kept (fun _ => False) w4 W → W.cell? ⟨w.heap.size, 6, none⟩ = some (.int .u8 s0) := fun W hW => p6 W (k14.trans hW)
  have P7 : ∀ W, Kept (fun _ => False) w4 W → W.cell? ⟨w.heap.size, 7, none⟩ = some (.int .u8 s1) := fun W hW => p7 W (k14.trans hW)
  have P8 : ∀ W, Kept (fun _ => False) w4 W → W.cell? ⟨w.heap.size, 8, none⟩ = some (.int .u8 s2) := fun W hW => p8 W (k14.trans hW)
  have P9 : ∀ W, Kept (fun _ => False) w4 W → W.cell? ⟨w.heap.size, 9, none⟩ = some (.int .u8 s3) := fun W hW => p9 W (k14.trans hW)
  have P10 : ∀ W, Kept (fun _ => False) w4 W → W.cell? ⟨w.heap.size, 10, none⟩ = some (.int .u8 s4) := fun W hW => p10 W (k14.trans hW)
  have P11 : ∀ W, Kept (fun _ => False) w4 W → W.cell? ⟨w.heap.size, 11, none⟩ = some (.int .u8 s5) := fun W hW => p11 W (k14.trans hW)
  clear ho2 hk2 HGE hw4 p0 p1 p2 p3 p4 p5 p6 p7 p8 p9 p10 p11 p12 p13 r0 r1 r2 r3 r4 r5
  have HMI := hid (fun W (hk : Kept (fun _ => False) w4 W) (hv : TagsAt W (.slice pv4 l.length cv4) l) => HMJ.out W (k14.trans hk) pv4 cv4 hv)
  clear HMJ
  have e10 := R10 w4 (Kept.refl _ _)
  rw [Hw4.out] at e10 z0 z1
  go_wp2_with fail
  rw [← Hw4.out]
  refine wp_region_held_drew (S := Kept (fun _ => False) w4) (by kernel_rfl) ((Kept.refl _ w4).drew) (fun hSd => ?_)
  refine Tks.out (l := [(0, some none), (1, some none), (2, some none), (3, some none), (4, some none)]) ?_
  iterate 5
   refine tkT (v := ?_) rfl (by kernel_rfl) (by kernel_rfl) (by kernel_rfl) (fun _ _ _ h => h) (Or.inl ⟨by kernel_rfl, fun W hSW => by go_simp; try with_reducible rfl⟩) (by assumption) ?_
   try simp only [List.getElem_toArray, List.getElem_cons_succ, List.getElem_cons_zero]
   try go_frame
  refine tkE ?_
  refine Tks.out (l := [(5, some (some (.bool false))), (6, some (some (.bool false)))]) ?_
  iterate 2
   refine tkV rfl (by kernel_rfl) (by kernel_rfl) (by kernel_rfl) (fun _ _ _ h => h) (Or.inl ⟨by kernel_rfl, fun W hSW => by go_simp; try with_reducible rfl⟩) (by assumption) ?_
   try simp only [List.getElem_toArray, List.getElem_cons_succ, List.getElem_cons_zero]
   try go_frame
  refine tkE ?_
  refine Tks.out (l := [(7, none), (8, none), (9, none)]) ?_
  iterate 3
   refine tkS rfl (by kernel_rfl) (by kernel_rfl) (by kernel_rfl) (fun _ _ _ h => h) (Or.inr ⟨by kernel_rfl, rfl⟩) (by assumption) ?_
   try simp only [List.getElem_toArray, List.getElem_cons_succ, List.getElem_cons_zero]
   try go_frame
  refine tkE ?_
  refine Tks.out (l := [(10, some (some (.bool false))), (11, some (some (.bool false)))]) ?_
  iterate 2
   refine tkV rfl (by kernel_rfl) (by kernel_rfl) (by kernel_rfl) (fun _ _ _ h => h) (Or.inl ⟨by kernel_rfl, fun W hSW => by go_simp; try with_reducible rfl⟩) (by assumption) ?_
   try simp only [List.getElem_toArray, List.getElem_cons_succ, List.getElem_cons_zero]
   try go_frame
  refine tkE ?_
  refine Tks.out (l := [(12, none), (13, none), (14, none), (15, none), (16, none), (17, none), (18, none), (19, none)]) ?_
  iterate 8
   refine tkS rfl (by kernel_rfl) (by kernel_rfl) (by kernel_rfl) (fun _ _ _ h => h) (Or.inr ⟨by kernel_rfl, rfl⟩) (by assumption) ?_
   try simp only [List.getElem_toArray, List.getElem_cons_succ, List.getElem_cons_zero]
   try go_frame
  refine tkE ?_
  refine Tks.out (l := [(20, some (some (.bool false))), (21, some (some (.bool false)))]) ?_
  iterate 2
   refine tkV rfl (by kernel_rfl) (by kernel_rfl) (by kernel_rfl) (fun _ _ _ h => h) (Or.inl ⟨by kernel_rfl, fun W hSW => by go_simp; try with_reducible rfl⟩) (by assumption) ?_
   try simp only [List.getElem_toArray, List.getElem_cons_succ, List.getElem_cons_zero]
   try go_frame
  refine tkE ?_
  refine Tks.out (l := [(22, none), (23, none), (24, none)]) ?_
  iterate 3
   refine tkS rfl (by kernel_rfl) (by kernel_rfl) (by kernel_rfl) (fun _ _ _ h => h) (Or.inr ⟨by kernel_rfl, rfl⟩) (by assumption) ?_
   try simp only [List.getElem_toArray, List.getElem_cons_succ, List.getElem_cons_zero]
   try go_frame
  refine tkE ?_
  refine wpAnyH_take (i := 25) (v := (.bool false)) rfl (by kernel_rfl) (by kernel_rfl) (by kernel_rfl) (fun _ _ _ h => h) (Or.inl ⟨by kernel_rfl, fun W hSW => by go_simp; try with_reducible rfl⟩) (by assumption) ?_
  try simp only [List.getElem_toArray, List.getElem_cons_succ, List.getElem_cons_zero]
  try go_frame
  refine wpAnyH_take (i := 26) (v := ?_) rfl (by kernel_rfl) (by kernel_rfl) (by kernel_rfl) (fun _ _ _ h => h) (Or.inl ⟨by kernel_rfl, fun W hSW => by go_simp; try with_reducible rfl⟩) (by assumption) ?_
  try simp only [List.getElem_toArray, List.getElem_cons_succ, List.getElem_cons_zero]
  try go_frame
  refine wpAnyH_done (by kernel_rfl) ?_ _
  go_wp2_with fail
  refine wp_region_held_drew (S := Kept (fun _ => False) w4) (by kernel_rfl) ((Kept.refl _ w4).drew.drew) (fun hSd => ?_)
  refine Tks.out (l := [(0, some none), (1, some none), (2, some none), (3, some none), (4, some none)]) ?_
  iterate 5
   refine tkT (v := ?_) rfl (by kernel_rfl) (by kernel_rfl) (by kernel_rfl) (fun _ _ _ h => h) (Or.inl ⟨by kernel_rfl, fun W hSW => by go_simp; try with_reducible rfl⟩) (by assumption) ?_
   try simp only [List.getElem_toArray, List.getElem_cons_succ, List.getElem_cons_zero]
   try go_frame
  refine tkE ?_
  refine Tks.out (l := [(5, some (some (.bool false))), (6, some (some (.bool false)))]) ?_
  iterate 2
   refine tkV rfl (by kernel_rfl) (by kernel_rfl) (by kernel_rfl) (fun _ _ _ h => h) (Or.inl ⟨by kernel_rfl, fun W hSW => by go_simp; try with_reducible rfl⟩) (by assumption) ?_
   try simp only [List.getElem_toArray, List.getElem_cons_succ, List.getElem_cons_zero]
   try go_frame
  refine tkE ?_
  refine Tks.out (l := [(7, none), (8, none), (9, none)]) ?_
  iterate 3
   refine tkS rfl (by kernel_rfl) (by kernel_rfl) (by kernel_rfl) (fun _ _ _ h => h) (Or.inr ⟨by kernel_rfl, rfl⟩) (by assumption) ?_
   try simp only [List.getElem_toArray, List.getElem_cons_succ, List.getElem_cons_zero]
   try go_frame
  refine tkE ?_
  refine Tks.out (l := [(10, some (some (.bool false))), (11, some (some (.bool false)))]) ?_
  iterate 2
   refine tkV rfl (by kernel_rfl) (by kernel_rfl) (by kernel_rfl) (fun _ _ _ h => h) (Or.inl ⟨by kernel_rfl, fun W hSW => by go_simp; try with_reducible rfl⟩) (by assumption) ?_
   try simp only [List.getElem_toArray, List.getElem_cons_succ, List.getElem_cons_zero]
   try go_frame
  refine tkE ?_
  refine Tks.out (l := [(12, none), (13, none), (14, none), (15, none), (16, none), (17, none), (18, none), (19, none)]) ?_
  iterate 8
   refine tkS rfl (by kernel_rfl) (by kernel_rfl) (by kernel_rfl) (fun _ _ _ h => h) (Or.inr ⟨by kernel_rfl, rfl⟩) (by assumption) ?_
   try simp only [List.getElem_toArray, List.getElem_cons_succ, List.getElem_cons_zero]
   try go_frame
  refine tkE ?_
  refine Tks.out (l := [(20, some (some (.bool false))), (21, some (some (.bool false)))]) ?_
  iterate 2
   refine tkV rfl (by kernel_rfl) (by kernel_rfl) (by kernel_rfl) (fun _ _ _ h => h) (Or.inl ⟨by kernel_rfl, fun W hSW => by go_simp; try with_reducible rfl⟩) (by assumption) ?_
   try simp only [List.getElem_toArray, List.getElem_cons_succ, List.getElem_cons_zero]
   try go_frame
  refine tkE ?_
  refine Tks.out (l := [(22, none), (23, none), (24, none), (25, none), (26, none), (27, none), (28, none), (29, none)]) ?_
  iterate 8
   refine tkS rfl (by kernel_rfl) (by kernel_rfl) (by kernel_rfl) (fun _ _ _ h => h) (Or.inr ⟨by kernel_rfl, rfl⟩) (by assumption) ?_
   try simp only [List.getElem_toArray, List.getElem_cons_succ, List.getElem_cons_zero]
   try go_frame
  refine tkE ?_
  refine wpAnyH_take (i := 30) (v := (.bool false)) rfl (by kernel_rfl) (by kernel_rfl) (by kernel_rfl) (fun _ _ _ h => h) (Or.inl ⟨by kernel_rfl, fun W hSW => by go_simp; try with_reducible rfl⟩) (by assumption) ?_
  try simp only [List.getElem_toArray, List.getElem_cons_succ, List.getElem_cons_zero]
  try go_frame
  refine wpAnyH_take (i := 31) (v := ?_) rfl (by kernel_rfl) (by kernel_rfl) (by kernel_rfl) (fun _ _ _ h => h) (Or.inl ⟨by kernel_rfl, fun W hSW => by go_simp; try with_reducible rfl⟩) (by assumption) ?_
  try simp only [List.getElem_toArray, List.getElem_cons_succ, List.getElem_cons_zero]
  try go_frame
  refine wpAnyH_done (by kernel_rfl) ?_ _
  go_wp2
  go_ret
  exact ⟨_, rfl, HNX.out _ (k14.trans (Kept.refl _ w4).drew.drew)⟩

set_option maxHeartbeats 4000000 in
set_option maxRecDepth 100000 in
theorem take_1code {S : Nat → Prop} (b : Nat) (h : Hs) (hg : GoodH h) (dst src : List UInt8) (hdst : dst.length = 6) (hsrc : src.length = 6) (ty : Int) (x : ByteArray) (hsz : x.size ≤ 1000000) (code ses : Nat) (D : List UInt8) (l : List Tg) (hge : getE ⟨dst, src, ty, x⟩ = (⟨code, ses, D⟩, l, true)) (hfew : FewT l) (w : World) (hA : HAt S w b h) (hmac : dst = h.mac) (hst : h.state = 1) (hcd : ¬ code = 7) :
    Calls Tryz.prog 17 #[.pointer (some ⟨b, 0, none⟩), frV ⟨dst, src, ty, x⟩] w fun e w' => ∃ u, e = .returned u ∧ HOut S w w' b h u [] := by
  obtain ⟨av, hH, hS⟩ := id hA
  obtain ⟨x0, x1, x2, x3, x4, x5, hx⟩ := six_cells hg.mac
  obtain ⟨y0, y1, y2, y3, y4, y5, hy⟩ := six_cells hg.conc
  obtain ⟨d0, d1, d2, d3, d4, d5, hd⟩ := six_cells hdst
  obtain ⟨s0, s1, s2, s3, s4, s5, hs⟩ := six_cells hsrc
  have hfv : frV ⟨dst, src, ty, x⟩ = .agg #[.int .u8 d0, .int .u8 d1, .int .u8 d2, .int .u8 d3, .int .u8 d4, .int .u8 d5, .int .u8 s0, .int .u8 s1, .int .u8 s2, .int .u8 s3, .int .u8 s4, .int .u8 s5, .int .i64 ty, .string x] := by unfold frV frList; simp only []; rw [hd, hs]; rfl
  rw [hfv]
  have hE := mac_eq dst h.mac hdst hg.mac
  rw [hd, hx, decide_eq_true hmac] at hE
  have hE3 := mac_eq src h.conc hsrc hg.conc
  rw [hs, hy] at hE3
  obtain ⟨w1, hw1⟩ : ∃ w1, w1 = w.alloc (.cells #[.int .u8 d0, .int .u8 d1, .int .u8 d2, .int .u8 d3, .int .u8 d4, .int .u8 d5, .int .u8 s0, .int .u8 s1, .int .u8 s2, .int .u8 s3, .int .u8 s4, .int .u8 s5, .int .i64 ty, .string x] 55) := ⟨_, rfl⟩
  have Hw1 := hid hw1
  have K1 : Hid (Kept (fun _ => False) w w1) := by rw [hw1]; exact (Kept.refl _ w).alloc _
  have O1 : Hid (Own14 w1 w.heap.size #[.int .u8 d0, .int .u8 d1, .int .u8 d2, .int .u8 d3, .int .u8 d4, .int .u8 d5, .int .u8 s0, .int .u8 s1, .int .u8 s2, .int .u8 s3, .int .u8 s4, .int .u8 s5, .int .i64 ty, .string x]) := by rw [hw1]; exact own14_new w _
  have HH := hid (fun W (hk : Kept (fun _ => False) w1 W) => hH.kept0 (K1.out.trans hk))
  have HN := hid (fun W (hk : Kept (fun _ => False) w1 W) => (HH.out W hk).notNone hg)
  have HC := hid (fun W (hk : Kept (fun _ => False) w1 W) => (HH.out W hk).cells hx hy)
  obtain ⟨p0, p1, p2, p3, p4, p5, p6, p7, p8, p9, p10, p11, p12, p13⟩ := cells14 (C := fun W => Kept (fun _ => False) w1 W) (X := w.heap.size) (fun W h => O1.out.kept h)
  have r0 := fun W (h : Kept (fun _ => False) w1 W) => (HC.out W h).c0
  have r1 := fun W (h : Kept (fun _ => False) w1 W) => (HC.out W h).c1
  have r2 := fun W (h : Kept (fun _ => False) w1 W) => (HC.out W h).c2
  have r3 := fun W (h : Kept (fun _ => False) w1 W) => (HC.out W h).c3
  have r4 := fun W (h : Kept (fun _ => False) w1 W) => (HC.out W h).c4
  have r5 := fun W (h : Kept (fun _ => False) w1 W) => (HC.out W h).c5
  have HNX := hid (fun W (hk : Kept (fun _ => False) w1 W) => HOut.nil (hA.next.still (K1.out.trans hk)))
  have HGE := hid (fun W => getE_any ⟨dst, src, ty, x⟩ hdst hsrc hsz W)
  rw [hge] at HGE
  simp only [] at HGE
  unfold discV frV frList at HGE
  simp only [] at HGE
  rw [hd, hs] at HGE
  change Hid (∀ W, Calls Tryz.prog 35 #[.agg #[.int .u8 d0, .int .u8 d1, .int .u8 d2, .int .u8 d3, .int .u8 d4, .int .u8 d5, .int .u8 s0, .int .u8 s1, .int .u8 s2, .int .u8 s3, .int .u8 s4, .int .u8 s5, .int .i64 ty, .string x]] W fun e w' => _) at HGE
  have n1 : (h.state == 1) = true := by simpa using hst
  have n2 : (h.state == 2) = false := by simp; omega
  have n3 : (h.state == 3) = false := by simp; omega
  have mc : ((code : Int) == 7) = false := by simp; omega
  clear hst hcd
  have HMJ := hid (fun W (hk : Kept (fun _ => False) w1 W) (p : Option Addr) (c : Nat) (hv : TagsAt W (.slice p l.length c) l) => isMine_any b av h hg (.slice p l.length c) l hfew W (HH.out W hk) hv)
  have HA := hid hA
  have HG := hid hg
  have HW := hid hfew
  have HX := hid hx
  have HY := hid hy
  have HS := hid hS
  clear hfv hw1 hd hs hA hH hS hx hy hdst hsrc hge hg hmac
  go_enter Tryz.func17, Tryz.ntmps17
  go_wp2_with fail
  rw [← Hw1.out]
  refine wp_region_held_drew (S := Kept (fun _ => False) w1) (by kernel_rfl) ((Kept.refl _ w1).drew) (fun hSd => ?_)
  refine wpAnyH_take (i := 0) (v := ?_) rfl (by kernel_rfl) (by kernel_rfl) (by kernel_rfl) (fun _ _ _ h => h) (Or.inl ⟨by kernel_rfl, fun W hSW => by go_simp; try with_reducible rfl⟩) (by assumption) ?_
  try simp only [List.getElem_toArray, List.getElem_cons_zero]
  try go_frame
  refine wpAnyH_ready (rs := [1]) (by kernel_rfl) (by simp) ?_
  refine AllReadyH.cons rfl (fun K hK => ?_) AllReadyH.nil
  go_simp
  refine (HN.out _ (Kept.refl _ w1).drew).mono ?_
  rintro e w' ⟨rfl, hw'⟩
  rw [hw']
  clear hw' w'
  refine hK.out _ _ ((Kept.refl _ w1).drew) (fun _ => ?_)
  clear hK K
  try simp only [List.getElem_toArray, List.getElem_cons_succ, List.getElem_cons_zero]
  try go_frame
  refine wpAnyH_take (i := 2) (v := (.bool false)) rfl (by kernel_rfl) (by kernel_rfl) (by kernel_rfl) (fun _ _ _ h => h) (Or.inl ⟨by kernel_rfl, fun W hSW => by go_simp; try with_reducible rfl⟩) (by assumption) ?_
  try simp only [List.getElem_toArray, List.getElem_cons_succ, List.getElem_cons_zero]
  try go_frame
  refine Tks.out (l := [(3, some none), (4, some none), (5, some none), (6, some none), (7, some none), (8, some none)]) ?_
  iterate 6
   refine tkT (v := ?_) rfl (by kernel_rfl) (by kernel_rfl) (by kernel_rfl) (fun _ _ _ h => h) (Or.inl ⟨by kernel_rfl, fun W hSW => by go_simp; try with_reducible rfl⟩) (by assumption) ?_
   try simp only [List.getElem_toArray, List.getElem_cons_succ, List.getElem_cons_zero]
   try go_frame
  refine tkE ?_
  refine Tks.out (l := [(9, some (some (.bool false))), (10, some (some (.bool false)))]) ?_
  iterate 2
   refine tkV rfl (by kernel_rfl) (by kernel_rfl) (by kernel_rfl) (fun _ _ _ h => h) (Or.inl ⟨by kernel_rfl, fun W hSW => by go_simp; try with_reducible rfl⟩) (by assumption) ?_
   try simp only [List.getElem_toArray, List.getElem_cons_succ, List.getElem_cons_zero]
   try go_frame
  refine tkE ?_
  refine wpAnyH_done (by kernel_rfl) ?_ _
  have pd0 := p0 w1.drew (Kept.refl _ w1).drew
  have pd1 := p1 w1.drew (Kept.refl _ w1).drew
  have pd2 := p2 w1.drew (Kept.refl _ w1).drew
  have pd3 := p3 w1.drew (Kept.refl _ w1).drew
  have pd4 := p4 w1.drew (Kept.refl _ w1).drew
  have pd5 := p5 w1.drew (Kept.refl _ w1).drew
  have pd6 := p6 w1.drew (Kept.refl _ w1).drew
  have pd7 := p7 w1.drew (Kept.refl _ w1).drew
  have pd8 := p8 w1.drew (Kept.refl _ w1).drew
  have pd9 := p9 w1.drew (Kept.refl _ w1).drew
  have pd10 := p10 w1.drew (Kept.refl _ w1).drew
  have pd11 := p11 w1.drew (Kept.refl _ w1).drew
  have pd12 := p12 w1.drew (Kept.refl _ w1).drew
  have pd13 := p13 w1.drew (Kept.refl _ w1).drew
  go_wp2_with fail
  refine (HGE.out _).mono ?_
  rintro e w2 ⟨pv4, cv4, rfl, ho2, hk2⟩
  clear pd0 pd1 pd2 pd3 pd4 pd5 pd6 pd7 pd8 pd9 pd10 pd11 pd12 pd13
  obtain ⟨w4, hw4⟩ : ∃ w4, w4 = w2.alloc (.cells #[.int .i64 (code : Int), .int .i64 (ses : Int), .string ⟨D.toArray⟩] 82) := ⟨_, rfl⟩
  have Hw4 := hid hw4
  have k14 : Kept (fun _ => False) w1 w4 := by rw [hw4]; exact ((Kept.refl _ w1).drew.trans hk2).alloc _
  obtain ⟨z0, z1, z2⟩ : Box3 w4 w2.heap.size (.int .i64 (code : Int)) (.int .i64 (ses : Int)) (.string ⟨D.toArray⟩) := by rw [hw4]; exact box3_new w2 _ _ _ _
  have V4 : Hid (TagsAt w4 (.slice pv4 l.length cv4) l) := by rw [hw4]; exact (OwnT.kept (show OwnT w2 w1.heap.size _ l from ho2) ((Kept.refl _ w2).alloc _)).tags
  have Z0 : ∀ W, Kept (fun _ => False) w4 W → W.cell? ⟨w2.heap.size, 0, none⟩ = some (.int .i64 (code : Int)) := fun W h => (h.cell (p := ⟨w2.heap.size, 0, none⟩) (lt_of_cell z0) id).trans z0
  have Z1 : ∀ W, Kept (fun _ => False) w4 W → W.cell? ⟨w2.heap.size, 1, none⟩ = some (.int .i64 (ses : Int)) := fun W h => (h.cell (p := ⟨w2.heap.size, 1, none⟩) (lt_of_cell z1) id).trans z1
  have R10 := fun W (hW : Kept (fun _ => False) w4 W) => (HC.out W (k14.trans hW)).c10
  have R17 := fun W (hW : Kept (fun _ => False) w4 W) => (HC.out W (k14.trans hW)).c17
  have R11 := fun W (hW : Kept (fun _ => False) w4 W) => (HC.out W (k14.trans hW)).c11
  have R12 := fun W (hW : Kept (fun _ => False) w4 W) => (HC.out W (k14.trans hW)).c12
  have R13 := fun W (hW : Kept (fun _ => False) w4 W) => (HC.out W (k14.trans hW)).c13
  have R14 := fun W (hW : Kept (fun _ => False) w4 W) => (HC.out W (k14.trans hW)).c14
  have R15 := fun W (hW : Kept (fun _ => False) w4 W) => (HC.out W (k14.trans hW)).c15
  have R16 := fun W (hW : Kept (fun _ => False) w4 W) => (HC.out W (k14.trans hW)).c16
  have P6 : ∀ W, Kept (fun _ => False) w4 W → W.cell? ⟨w.heap.size, 6, none⟩ = some (.int .u8 s0) := fun W hW => p6 W (k14.trans hW)
  have P7 : ∀ W, Kept (fun _ => False) w4 W → W.cell? ⟨w.heap.size, 7, none⟩ = some (.int .u8 s1) := fun W hW => p7 W (k14.trans hW)
  have P8 : ∀ W, Kept (fun _ => False) w4 W → W.cell? ⟨w.heap.size, 8, none⟩ = some (.int .u8 s2) := fun W hW => p8 W (k14.trans hW)
  have P9 : ∀ W, Kept (fun _ => False) w4 W → W.cell? ⟨w.heap.size, 9, none⟩ = some (.int .u8 s3) := fun W hW => p9 W (k14.trans hW)
  have P10 : ∀ W, Kept (fun _ => False) w4 W → W.cell? ⟨w.heap.size, 10, none⟩ = some (.int .u8 s4) := fun W hW => p10 W (k14.trans hW)
  have P11 : ∀ W, Kept (fun _ => False) w4 W → W.cell? ⟨w.heap.size, 11, none⟩ = some (.int .u8 s5) := fun W hW => p11 W (k14.trans hW)
  clear ho2 hk2 HGE hw4 p0 p1 p2 p3 p4 p5 p6 p7 p8 p9 p10 p11 p12 p13 r0 r1 r2 r3 r4 r5
  have HMI := hid (fun W (hk : Kept (fun _ => False) w4 W) (hv : TagsAt W (.slice pv4 l.length cv4) l) => HMJ.out W (k14.trans hk) pv4 cv4 hv)
  clear HMJ
  have e10 := R10 w4 (Kept.refl _ _)
  rw [Hw4.out] at e10 z0 z1
  go_wp2_with fail
  rw [← Hw4.out]
  refine wp_region_held_drew (S := Kept (fun _ => False) w4) (by kernel_rfl) ((Kept.refl _ w4).drew) (fun hSd => ?_)
  refine Tks.out (l := [(0, some none), (1, some none), (2, some none), (3, some none), (4, some none)]) ?_
  iterate 5
   refine tkT (v := ?_) rfl (by kernel_rfl) (by kernel_rfl) (by kernel_rfl) (fun _ _ _ h => h) (Or.inl ⟨by kernel_rfl, fun W hSW => by go_simp; try with_reducible rfl⟩) (by assumption) ?_
   try simp only [List.getElem_toArray, List.getElem_cons_succ, List.getElem_cons_zero]
   try go_frame
  refine tkE ?_
  refine Tks.out (l := [(5, some (some (.bool false))), (6, some (some (.bool false)))]) ?_
  iterate 2
   refine tkV rfl (by kernel_rfl) (by kernel_rfl) (by kernel_rfl) (fun _ _ _ h => h) (Or.inl ⟨by kernel_rfl, fun W hSW => by go_simp; try with_reducible rfl⟩) (by assumption) ?_
   try simp only [List.getElem_toArray, List.getElem_cons_succ, List.getElem_cons_zero]
   try go_frame
  refine tkE ?_
  refine Tks.out (l := [(7, none), (8, none), (9, none)]) ?_
  iterate 3
   refine tkS rfl (by kernel_rfl) (by kernel_rfl) (by kernel_rfl) (fun _ _ _ h => h) (Or.inr ⟨by kernel_rfl, rfl⟩) (by assumption) ?_
   try simp only [List.getElem_toArray, List.getElem_cons_succ, List.getElem_cons_zero]
   try go_frame
  refine tkE ?_
  refine Tks.out (l := [(10, some (some (.bool false))), (11, some (some (.bool false)))]) ?_
  iterate 2
   refine tkV rfl (by kernel_rfl) (by kernel_rfl) (by kernel_rfl) (fun _ _ _ h => h) (Or.inl ⟨by kernel_rfl, fun W hSW => by go_simp; try with_reducible rfl⟩) (by assumption) ?_
   try simp only [List.getElem_toArray, List.getElem_cons_succ, List.getElem_cons_zero]
   try go_frame
  refine tkE ?_
  refine Tks.out (l := [(12, none), (13, none), (14, none), (15, none), (16, none), (17, none), (18, none), (19, none)]) ?_
  iterate 8
   refine tkS rfl (by kernel_rfl) (by kernel_rfl) (by kernel_rfl) (fun _ _ _ h => h) (Or.inr ⟨by kernel_rfl, rfl⟩) (by assumption) ?_
   try simp only [List.getElem_toArray, List.getElem_cons_succ, List.getElem_cons_zero]
   try go_frame
  refine tkE ?_
  refine Tks.out (l := [(20, some (some (.bool false))), (21, some (some (.bool false)))]) ?_
  iterate 2
   refine tkV rfl (by kernel_rfl) (by kernel_rfl) (by kernel_rfl) (fun _ _ _ h => h) (Or.inl ⟨by kernel_rfl, fun W hSW => by go_simp; try with_reducible rfl⟩) (by assumption) ?_
   try simp only [List.getElem_toArray, List.getElem_cons_succ, List.getElem_cons_zero]
   try go_frame
  refine tkE ?_
  refine Tks.out (l := [(22, none), (23, none), (24, none)]) ?_
  iterate 3
   refine tkS rfl (by kernel_rfl) (by kernel_rfl) (by kernel_rfl) (fun _ _ _ h => h) (Or.inr ⟨by kernel_rfl, rfl⟩) (by assumption) ?_
   try simp only [List.getElem_toArray, List.getElem_cons_succ, List.getElem_cons_zero]
   try go_frame
  refine tkE ?_
  refine wpAnyH_take (i := 25) (v := (.bool false)) rfl (by kernel_rfl) (by kernel_rfl) (by kernel_rfl) (fun _ _ _ h => h) (Or.inl ⟨by kernel_rfl, fun W hSW => by go_simp; try with_reducible rfl⟩) (by assumption) ?_
  try simp only [List.getElem_toArray, List.getElem_cons_succ, List.getElem_cons_zero]
  try go_frame
  refine wpAnyH_take (i := 26) (v := ?_) rfl (by kernel_rfl) (by kernel_rfl) (by kernel_rfl) (fun _ _ _ h => h) (Or.inl ⟨by kernel_rfl, fun W hSW => by go_simp; try with_reducible rfl⟩) (by assumption) ?_
  try simp only [List.getElem_toArray, List.getElem_cons_succ, List.getElem_cons_zero]
  try go_frame
  refine wpAnyH_done (by kernel_rfl) ?_ _
  go_wp2_with fail
  refine wp_region_held_drew (S := Kept (fun _ => False) w4) (by kernel_rfl) ((Kept.refl _ w4).drew.drew) (fun hSd => ?_)
  refine Tks.out (l := [(0, some none), (1, some none), (2, some none), (3, some none), (4, some none)]) ?_
  iterate 5
   refine tkT (v := ?_) rfl (by kernel_rfl) (by kernel_rfl) (by kernel_rfl) (fun _ _ _ h => h) (Or.inl ⟨by kernel_rfl, fun W hSW => by go_simp; try with_reducible rfl⟩) (by assumption) ?_
   try simp only [List.getElem_toArray, List.getElem_cons_succ, List.getElem_cons_zero]
   try go_frame
  refine tkE ?_
  refine Tks.out (l := [(5, some (some (.bool false))), (6, some (some (.bool false)))]) ?_
  iterate 2
   refine tkV rfl (by kernel_rfl) (by kernel_rfl) (by kernel_rfl) (fun _ _ _ h => h) (Or.inl ⟨by kernel_rfl, fun W hSW => by go_simp; try with_reducible rfl⟩) (by assumption) ?_
   try simp only [List.getElem_toArray, List.getElem_cons_succ, List.getElem_cons_zero]
   try go_frame
  refine tkE ?_
  refine Tks.out (l := [(7, none), (8, none), (9, none)]) ?_
  iterate 3
   refine tkS rfl (by kernel_rfl) (by kernel_rfl) (by kernel_rfl) (fun _ _ _ h => h) (Or.inr ⟨by kernel_rfl, rfl⟩) (by assumption) ?_
   try simp only [List.getElem_toArray, List.getElem_cons_succ, List.getElem_cons_zero]
   try go_frame
  refine tkE ?_
  refine Tks.out (l := [(10, some (some (.bool false))), (11, some (some (.bool false)))]) ?_
  iterate 2
   refine tkV rfl (by kernel_rfl) (by kernel_rfl) (by kernel_rfl) (fun _ _ _ h => h) (Or.inl ⟨by kernel_rfl, fun W hSW => by go_simp; try with_reducible rfl⟩) (by assumption) ?_
   try simp only [List.getElem_toArray, List.getElem_cons_succ, List.getElem_cons_zero]
   try go_frame
  refine tkE ?_
  refine Tks.out (l := [(12, none), (13, none), (14, none), (15, none), (16, none), (17, none), (18, none), (19, none)]) ?_
  iterate 8
   refine tkS rfl (by kernel_rfl) (by kernel_rfl) (by kernel_rfl) (fun _ _ _ h => h) (Or.inr ⟨by kernel_rfl, rfl⟩) (by assumption) ?_
   try simp only [List.getElem_toArray, List.getElem_cons_succ, List.getElem_cons_zero]
   try go_frame
  refine tkE ?_
  refine Tks.out (l := [(20, some (some (.bool false))), (21, some (some (.bool false)))]) ?_
  iterate 2
   refine tkV rfl (by kernel_rfl) (by kernel_rfl) (by kernel_rfl) (fun _ _ _ h => h) (Or.inl ⟨by kernel_rfl, fun W hSW => by go_simp; try with_reducible rfl⟩) (by assumption) ?_
   try simp only [List.getElem_toArray, List.getElem_cons_succ, List.getElem_cons_zero]
   try go_frame
  refine tkE ?_
  refine Tks.out (l := [(22, none), (23, none), (24, none), (25, none), (26, none), (27, none), (28, none), (29, none)]) ?_
  iterate 8
   refine tkS rfl (by kernel_rfl) (by kernel_rfl) (by kernel_rfl) (fun _ _ _ h => h) (Or.inr ⟨by kernel_rfl, rfl⟩) (by assumption) ?_
   try simp only [List.getElem_toArray, List.getElem_cons_succ, List.getElem_cons_zero]
   try go_frame
  refine tkE ?_
  refine wpAnyH_take (i := 30) (v := (.bool false)) rfl (by kernel_rfl) (by kernel_rfl) (by kernel_rfl) (fun _ _ _ h => h) (Or.inl ⟨by kernel_rfl, fun W hSW => by go_simp; try with_reducible rfl⟩) (by assumption) ?_
  try simp only [List.getElem_toArray, List.getElem_cons_succ, List.getElem_cons_zero]
  try go_frame
  refine wpAnyH_take (i := 31) (v := ?_) rfl (by kernel_rfl) (by kernel_rfl) (by kernel_rfl) (fun _ _ _ h => h) (Or.inl ⟨by kernel_rfl, fun W hSW => by go_simp; try with_reducible rfl⟩) (by assumption) ?_
  try simp only [List.getElem_toArray, List.getElem_cons_succ, List.getElem_cons_zero]
  try go_frame
  refine wpAnyH_done (by kernel_rfl) ?_ _
  go_wp2
  go_ret
  exact ⟨_, rfl, HNX.out _ (k14.trans (Kept.refl _ w4).drew.drew)⟩

set_option maxHeartbeats 4000000 in
set_option maxRecDepth 100000 in
theorem take_1ses {S : Nat → Prop} (b : Nat) (h : Hs) (hg : GoodH h) (dst src : List UInt8) (hdst : dst.length = 6) (hsrc : src.length = 6) (ty : Int) (x : ByteArray) (hsz : x.size ≤ 1000000) (code ses : Nat) (D : List UInt8) (l : List Tg) (hge : getE ⟨dst, src, ty, x⟩ = (⟨code, ses, D⟩, l, true)) (hfew : FewT l) (w : World) (hA : HAt S w b h) (hmac : dst = h.mac) (hst : h.state = 1) (hcd : code = 7) (hss : ¬ ses = 0) :
    Calls Tryz.prog 17 #[.pointer (some ⟨b, 0, none⟩), frV ⟨dst, src, ty, x⟩] w fun e w' => ∃ u, e = .returned u ∧ HOut S w w' b h u [] := by
  obtain ⟨av, hH, hS⟩ := id hA
  obtain ⟨x0, x1, x2, x3, x4, x5, hx⟩ := six_cells hg.mac
  obtain ⟨y0, y1, y2, y3, y4, y5, hy⟩ := six_cells hg.conc
  obtain ⟨d0, d1, d2, d3, d4, d5, hd⟩ := six_cells hdst
  obtain ⟨s0, s1, s2, s3, s4, s5, hs⟩ := six_cells hsrc
  have hfv : frV ⟨dst, src, ty, x⟩ = .agg #[.int .u8 d0, .int .u8 d1, .int .u8 d2, .int .u8 d3, .int .u8 d4, .int .u8 d5, .int .u8 s0, .int .u8 s1, .int .u8 s2, .int .u8 s3, .int .u8 s4, .int .u8 s5, .int .i64 ty, .string x] := by unfold frV frList; simp only []; rw [hd, hs]; rfl
  rw [hfv]
  have hE := mac_eq dst h.mac hdst hg.mac
  rw [hd, hx, decide_eq_true hmac] at hE
  have hE3 := mac_eq src h.conc hsrc hg.conc
  rw [hs, hy] at hE3
  obtain ⟨w1, hw1⟩ : ∃ w1, w1 = w.alloc (.cells #[.int .u8 d0, .int .u8 d1, .int .u8 d2, .int .u8 d3, .int .u8 d4, .int .u8 d5, .int .u8 s0, .int .u8 s1, .int .u8 s2, .int .u8 s3, .int .u8 s4, .int .u8 s5, .int .i64 ty, .string x] 55) := ⟨_, rfl⟩
  have Hw1 := hid hw1
  have K1 : Hid (Kept (fun _ => False) w w1) := by rw [hw1]; exact (Kept.refl _ w).alloc _
  have O1 : Hid (Own14 w1 w.heap.size #[.int .u8 d0, .int .u8 d1, .int .u8 d2, .int .u8 d3, .int .u8 d4, .int .u8 d5, .int .u8 s0, .int .u8 s1, .int .u8 s2, .int .u8 s3, .int .u8 s4, .int .u8 s5, .int .i64 ty, .string x]) := by rw [hw1]; exact own14_new w _
  have HH := hid (fun W (hk : Kept (fun _ => False) w1 W) => hH.kept0 (K1.out.trans hk))
  have HN := hid (fun W (hk : Kept (fun _ => False) w1 W) => (HH.out W hk).notNone hg)
  have HC := hid (fun W (hk : Kept (fun _ => False) w1 W) => (HH.out W hk).cells hx hy)
  obtain ⟨p0, p1, p2, p3, p4, p5, p6, p7, p8, p9, p10, p11, p12, p13⟩ := cells14 (C := fun W => Kept (fun _ => False) w1 W) (X := w.heap.size) (fun W h => O1.out.kept h)
  have r0 := fun W (h : Kept (fun _ => False) w1 W) => (HC.out W h).c0
  have r1 := fun W (h : Kept (fun _ => False) w1 W) => (HC.out W h).c1
  have r2 := fun W (h : Kept (fun _ => False) w1 W) => (HC.out W h).c2
  have r3 := fun W (h : Kept (fun _ => False) w1 W) => (HC.out W h).c3
  have r4 := fun W (h : Kept (fun _ => False) w1 W) => (HC.out W h).c4
  have r5 := fun W (h : Kept (fun _ => False) w1 W) => (HC.out W h).c5
  have HNX := hid (fun W (hk : Kept (fun _ => False) w1 W) => HOut.nil (hA.next.still (K1.out.trans hk)))
  have HGE := hid (fun W => getE_any ⟨dst, src, ty, x⟩ hdst hsrc hsz W)
  rw [hge] at HGE
  simp only [] at HGE
  unfold discV frV frList at HGE
  simp only [] at HGE
  rw [hd, hs] at HGE
  change Hid (∀ W, Calls Tryz.prog 35 #[.agg #[.int .u8 d0, .int .u8 d1, .int .u8 d2, .int .u8 d3, .int .u8 d4, .int .u8 d5, .int .u8 s0, .int .u8 s1, .int .u8 s2, .int .u8 s3, .int .u8 s4, .int .u8 s5, .int .i64 ty, .string x]] W fun e w' => _) at HGE
  have n1 : (h.state == 1) = true := by simpa using hst
  have n2 : (h.state == 2) = false := by simp; omega
  have n3 : (h.state == 3) = false := by simp; omega
  have mc : ((code : Int) == 7) = true := by simp; omega
  have ms : ((ses : Int) == 0) = false := by simp; omega
  clear hst hcd hss
  have HMJ := hid (fun W (hk : Kept (fun _ => False) w1 W) (p : Option Addr) (c : Nat) (hv : TagsAt W (.slice p l.length c) l) => isMine_any b av h hg (.slice p l.length c) l hfew W (HH.out W hk) hv)
  have HA := hid hA
  have HG := hid hg
  have HW := hid hfew
  have HX := hid hx
  have HY := hid hy
  have HS := hid hS
  clear hfv hw1 hd hs hA hH hS hx hy hdst hsrc hge hg hmac
  go_enter Tryz.func17, Tryz.ntmps17
  go_wp2_with fail
  rw [← Hw1.out]
  refine wp_region_held_drew (S := Kept (fun _ => False) w1) (by kernel_rfl) ((Kept.refl _ w1).drew) (fun hSd => ?_)
  refine wpAnyH_take (i := 0) (v := ?_) rfl (by kernel_rfl) (by kernel_rfl) (by kernel_rfl) (fun _ _ _ h => h) (Or.inl ⟨by kernel_rfl, fun W hSW => by go_simp; try with_reducible rfl⟩) (by assumption) ?_
  try simp only [List.getElem_toArray, List.getElem_cons_zero]
  try go_frame
  refine wpAnyH_ready (rs := [1]) (by kernel_rfl) (by simp) ?_
  refine AllReadyH.cons rfl (fun K hK => ?_) AllReadyH.nil
  go_simp
  refine (HN.out _ (Kept.refl _ w1).drew).mono ?_
  rintro e w' ⟨rfl, hw'⟩
  rw [hw']
  clear hw' w'
  refine hK.out _ _ ((Kept.refl _ w1).drew) (fun _ => ?_)
  clear hK K
  try simp only [List.getElem_toArray, List.getElem_cons_succ, List.getElem_cons_zero]
  try go_frame
  refine wpAnyH_take (i := 2) (v := (.bool false)) rfl (by kernel_rfl) (by kernel_rfl) (by kernel_rfl) (fun _ _ _ h => h) (Or.inl ⟨by kernel_rfl, fun W hSW => by go_simp; try with_reducible rfl⟩) (by assumption) ?_
  try simp only [List.getElem_toArray, List.getElem_cons_succ, List.getElem_cons_zero]
  try go_frame
  refine Tks.out (l := [(3, some none), (4, some none), (5, some none), (6, some none), (7, some none), (8, some none)]) ?_
  iterate 6
   refine tkT (v := ?_) rfl (by kernel_rfl) (by kernel_rfl) (by kernel_rfl) (fun _ _ _ h => h) (Or.inl ⟨by kernel_rfl, fun W hSW => by go_simp; try with_reducible rfl⟩) (by assumption) ?_
   try simp only [List.getElem_toArray, List.getElem_cons_succ, List.getElem_cons_zero]
   try go_frame
  refine tkE ?_
  refine Tks.out (l := [(9, some (some (.bool false))), (10, some (some (.bool false)))]) ?_
  iterate 2
   refine tkV rfl (by kernel_rfl) (by kernel_rfl) (by kernel_rfl) (fun _ _ _ h => h) (Or.inl ⟨by kernel_rfl, fun W hSW => by go_simp; try with_reducible rfl⟩) (by assumption) ?_
   try simp only [List.getElem_toArray, List.getElem_cons_succ, List.getElem_cons_zero]
   try go_frame
  refine tkE ?_
  refine wpAnyH_done (by kernel_rfl) ?_ _
  have pd0 := p0 w1.drew (Kept.refl _ w1).drew
  have pd1 := p1 w1.drew (Kept.refl _ w1).drew
  have pd2 := p2 w1.drew (Kept.refl _ w1).drew
  have pd3 := p3 w1.drew (Kept.refl _ w1).drew
  have pd4 := p4 w1.drew (Kept.refl _ w1).drew
  have pd5 := p5 w1.drew (Kept.refl _ w1).drew
  have pd6 := p6 w1.drew (Kept.refl _ w1).drew
  have pd7 := p7 w1.drew (Kept.refl _ w1).drew
  have pd8 := p8 w1.drew (Kept.refl _ w1).drew
  have pd9 := p9 w1.drew (Kept.refl _ w1).drew
  have pd10 := p10 w1.drew (Kept.refl _ w1).drew
  have pd11 := p11 w1.drew (Kept.refl _ w1).drew
  have pd12 := p12 w1.drew (Kept.refl _ w1).drew
  have pd13 := p13 w1.drew (Kept.refl _ w1).drew
  go_wp2_with fail
  refine (HGE.out _).mono ?_
  rintro e w2 ⟨pv4, cv4, rfl, ho2, hk2⟩
  clear pd0 pd1 pd2 pd3 pd4 pd5 pd6 pd7 pd8 pd9 pd10 pd11 pd12 pd13
  obtain ⟨w4, hw4⟩ : ∃ w4, w4 = w2.alloc (.cells #[.int .i64 (code : Int), .int .i64 (ses : Int), .string ⟨D.toArray⟩] 82) := ⟨_, rfl⟩
  have Hw4 := hid hw4
  have k14 : Kept (fun _ => False) w1 w4 := by rw [hw4]; exact ((Kept.refl _ w1).drew.trans hk2).alloc _
  obtain ⟨z0, z1, z2⟩ : Box3 w4 w2.heap.size (.int .i64 (code : Int)) (.int .i64 (ses : Int)) (.string ⟨D.toArray⟩) := by rw [hw4]; exact box3_new w2 _ _ _ _
  have V4 : Hid (TagsAt w4 (.slice pv4 l.length cv4) l) := by rw [hw4]; exact (OwnT.kept (show OwnT w2 w1.heap.size _ l from ho2) ((Kept.refl _ w2).alloc _)).tags
  have Z0 : ∀ W, Kept (fun _ => False) w4 W → W.cell? ⟨w2.heap.size, 0, none⟩ = some (.int .i64 (code : Int)) := fun W h => (h.cell (p := ⟨w2.heap.size, 0, none⟩) (lt_of_cell z0) id).trans z0
  have Z1 : ∀ W, Kept (fun _ => False) w4 W → W.cell? ⟨w2.heap.size, 1, none⟩ = some (.int .i64 (ses : Int)) := fun W h => (h.cell (p := ⟨w2.heap.size, 1, none⟩) (lt_of_cell z1) id).trans z1
  have R10 := fun W (hW : Kept (fun _ => False) w4 W) => (HC.out W (k14.trans hW)).c10
  have R17 := fun W (hW : Kept (fun _ => False) w4 W) => (HC.out W (k14.trans hW)).c17
  have R11 := fun W (hW : Kept (fun _ => False) w4 W) => (HC.out W (k14.trans hW)).c11
  have R12 := fun W (hW : Kept (fun _ => False) w4 W) => (HC.out W (k14.trans hW)).c12
  have R13 := fun W (hW : Kept (fun _ => False) w4 W) => (HC.out W (k14.trans hW)).c13
  have R14 := fun W (hW : Kept (fun _ => False) w4 W) => (HC.out W (k14.trans hW)).c14
  have R15 := fun W (hW : Kept (fun _ => False) w4 W) => (HC.out W (k14.trans hW)).c15
  have R16 := fun W (hW : Kept (fun _ => False) w4 W) => (HC.out W (k14.trans hW)).c16
  have P6 : ∀ W, Kept (fun _ => False) w4 W → W.cell? ⟨w.heap.size, 6, none⟩ = some (.int .u8 s0) := fun W hW => p6 W (k14.trans hW)
  have P7 : ∀ W, Kept (fun _ => False) w4 W → W.cell? ⟨w.heap.size, 7, none⟩ = some (.int .u8 s1) := fun W hW => p7 W (k14.trans hW)
  have P8 : ∀ W, Kept (fun _ => False) w4 W → W.cell? ⟨w.heap.size, 8, none⟩ = some (.int .u8 s2) := fun W hW => p8 W (k14.trans hW)
  have P9 : ∀ W, Kept (fun _ => False) w4 W → W.cell? ⟨w.heap.size, 9, none⟩ = some (.int .u8 s3) := fun W hW => p9 W (k14.trans hW)
  have P10 : ∀ W, Kept (fun _ => False) w4 W → W.cell? ⟨w.heap.size, 10, none⟩ = some (.int .u8 s4) := fun W hW => p10 W (k14.trans hW)
  have P11 : ∀ W, Kept (fun _ => False) w4 W → W.cell? ⟨w.heap.size, 11, none⟩ = some (.int .u8 s5) := fun W hW => p11 W (k14.trans hW)
  clear ho2 hk2 HGE hw4 p0 p1 p2 p3 p4 p5 p6 p7 p8 p9 p10 p11 p12 p13 r0 r1 r2 r3 r4 r5
  have HMI := hid (fun W (hk : Kept (fun _ => False) w4 W) (hv : TagsAt W (.slice pv4 l.length cv4) l) => HMJ.out W (k14.trans hk) pv4 cv4 hv)
  clear HMJ
  have e10 := R10 w4 (Kept.refl _ _)
  rw [Hw4.out] at e10 z0 z1
  go_wp2_with fail
  rw [← Hw4.out]
  refine wp_region_held_drew (S := Kept (fun _ => False) w4) (by kernel_rfl) ((Kept.refl _ w4).drew) (fun hSd => ?_)
  refine Tks.out (l := [(0, some none), (1, some none), (2, some none), (3, some none), (4, some none)]) ?_
  iterate 5
   refine tkT (v := ?_) rfl (by kernel_rfl) (by kernel_rfl) (by kernel_rfl) (fun _ _ _ h => h) (Or.inl ⟨by kernel_rfl, fun W hSW => by go_simp; try with_reducible rfl⟩) (by assumption) ?_
   try simp only [List.getElem_toArray, List.getElem_cons_succ, List.getElem_cons_zero]
   try go_frame
  refine tkE ?_
  refine Tks.out (l := [(5, some (some (.bool false))), (6, some (some (.bool false)))]) ?_
  iterate 2
   refine tkV rfl (by kernel_rfl) (by kernel_rfl) (by kernel_rfl) (fun _ _ _ h => h) (Or.inl ⟨by kernel_rfl, fun W hSW => by go_simp; try with_reducible rfl⟩) (by assumption) ?_
   try simp only [List.getElem_toArray, List.getElem_cons_succ, List.getElem_cons_zero]
   try go_frame
  refine tkE ?_
  refine Tks.out (l := [(7, none), (8, none), (9, none)]) ?_
  iterate 3
   refine tkS rfl (by kernel_rfl) (by kernel_rfl) (by kernel_rfl) (fun _ _ _ h => h) (Or.inr ⟨by kernel_rfl, rfl⟩) (by assumption) ?_
   try simp only [List.getElem_toArray, List.getElem_cons_succ, List.getElem_cons_zero]
   try go_frame
  refine tkE ?_
  refine Tks.out (l := [(10, some (some (.bool false))), (11, some (some (.bool false)))]) ?_
  iterate 2
   refine tkV rfl (by kernel_rfl) (by kernel_rfl) (by kernel_rfl) (fun _ _ _ h => h) (Or.inl ⟨by kernel_rfl, fun W hSW => by go_simp; try with_reducible rfl⟩) (by assumption) ?_
   try simp only [List.getElem_toArray, List.getElem_cons_succ, List.getElem_cons_zero]
   try go_frame
  refine tkE ?_
  refine Tks.out (l := [(12, none), (13, none), (14, none), (15, none), (16, none), (17, none), (18, none), (19, none)]) ?_
  iterate 8
   refine tkS rfl (by kernel_rfl) (by kernel_rfl) (by kernel_rfl) (fun _ _ _ h => h) (Or.inr ⟨by kernel_rfl, rfl⟩) (by assumption) ?_
   try simp only [List.getElem_toArray, List.getElem_cons_succ, List.getElem_cons_zero]
   try go_frame
  refine tkE ?_
  refine Tks.out (l := [(20, some (some (.bool false))), (21, some (some (.bool false)))]) ?_
  iterate 2
   refine tkV rfl (by kernel_rfl) (by kernel_rfl) (by kernel_rfl) (fun _ _ _ h => h) (Or.inl ⟨by kernel_rfl, fun W hSW => by go_simp; try with_reducible rfl⟩) (by assumption) ?_
   try simp only [List.getElem_toArray, List.getElem_cons_succ, List.getElem_cons_zero]
   try go_frame
  refine tkE ?_
  refine Tks.out (l := [(22, none), (23, none), (24, none)]) ?_
  iterate 3
   refine tkS rfl (by kernel_rfl) (by kernel_rfl) (by kernel_rfl) (fun _ _ _ h => h) (Or.inr ⟨by kernel_rfl, rfl⟩) (by assumption) ?_
   try simp only [List.getElem_toArray, List.getElem_cons_succ, List.getElem_cons_zero]
   try go_frame
  refine tkE ?_
  refine wpAnyH_take (i := 25) (v := (.bool false)) rfl (by kernel_rfl) (by kernel_rfl) (by kernel_rfl) (fun _ _ _ h => h) (Or.inl ⟨by kernel_rfl, fun W hSW => by go_simp; try with_reducible rfl⟩) (by assumption) ?_
  try simp only [List.getElem_toArray, List.getElem_cons_succ, List.getElem_cons_zero]
  try go_frame
  refine wpAnyH_take (i := 26) (v := ?_) rfl (by kernel_rfl) (by kernel_rfl) (by kernel_rfl) (fun _ _ _ h => h) (Or.inl ⟨by kernel_rfl, fun W hSW => by go_simp; try with_reducible rfl⟩) (by assumption) ?_
  try simp only [List.getElem_toArray, List.getElem_cons_succ, List.getElem_cons_zero]
  try go_frame
  refine wpAnyH_done (by kernel_rfl) ?_ _
  go_wp2_with fail
  refine wp_region_held_drew (S := Kept (fun _ => False) w4) (by kernel_rfl) ((Kept.refl _ w4).drew.drew) (fun hSd => ?_)
  refine Tks.out (l := [(0, some none), (1, some none), (2, some none), (3, some none), (4, some none)]) ?_
  iterate 5
   refine tkT (v := ?_) rfl (by kernel_rfl) (by kernel_rfl) (by kernel_rfl) (fun _ _ _ h => h) (Or.inl ⟨by kernel_rfl, fun W hSW => by go_simp; try with_reducible rfl⟩) (by assumption) ?_
   try simp only [List.getElem_toArray, List.getElem_cons_succ, List.getElem_cons_zero]
   try go_frame
  refine tkE ?_
  refine Tks.out (l := [(5, some (some (.bool false))), (6, some (some (.bool false)))]) ?_
  iterate 2
   refine tkV rfl (by kernel_rfl) (by kernel_rfl) (by kernel_rfl) (fun _ _ _ h => h) (Or.inl ⟨by kernel_rfl, fun W hSW => by go_simp; try with_reducible rfl⟩) (by assumption) ?_
   try simp only [List.getElem_toArray, List.getElem_cons_succ, List.getElem_cons_zero]
   try go_frame
  refine tkE ?_
  refine Tks.out (l := [(7, none), (8, none), (9, none)]) ?_
  iterate 3
   refine tkS rfl (by kernel_rfl) (by kernel_rfl) (by kernel_rfl) (fun _ _ _ h => h) (Or.inr ⟨by kernel_rfl, rfl⟩) (by assumption) ?_
   try simp only [List.getElem_toArray, List.getElem_cons_succ, List.getElem_cons_zero]
   try go_frame
  refine tkE ?_
  refine Tks.out (l := [(10, some (some (.bool false))), (11, some (some (.bool false)))]) ?_
  iterate 2
   refine tkV rfl (by kernel_rfl) (by kernel_rfl) (by kernel_rfl) (fun _ _ _ h => h) (Or.inl ⟨by kernel_rfl, fun W hSW => by go_simp; try with_reducible rfl⟩) (by assumption) ?_
   try simp only [List.getElem_toArray, List.getElem_cons_succ, List.getElem_cons_zero]
   try go_frame
  refine tkE ?_
  refine Tks.out (l := [(12, none), (13, none), (14, none), (15, none), (16, none), (17, none), (18, none), (19, none)]) ?_
  iterate 8
   refine tkS rfl (by kernel_rfl) (by kernel_rfl) (by kernel_rfl) (fun _ _ _ h => h) (Or.inr ⟨by kernel_rfl, rfl⟩) (by assumption) ?_
   try simp only [List.getElem_toArray, List.getElem_cons_succ, List.getElem_cons_zero]
   try go_frame
  refine tkE ?_
  refine Tks.out (l := [(20, some (some (.bool false))), (21, some (some (.bool false)))]) ?_
  iterate 2
   refine tkV rfl (by kernel_rfl) (by kernel_rfl) (by kernel_rfl) (fun _ _ _ h => h) (Or.inl ⟨by kernel_rfl, fun W hSW => by go_simp; try with_reducible rfl⟩) (by assumption) ?_
   try simp only [List.getElem_toArray, List.getElem_cons_succ, List.getElem_cons_zero]
   try go_frame
  refine tkE ?_
  refine Tks.out (l := [(22, none), (23, none), (24, none), (25, none), (26, none), (27, none), (28, none), (29, none)]) ?_
  iterate 8
   refine tkS rfl (by kernel_rfl) (by kernel_rfl) (by kernel_rfl) (fun _ _ _ h => h) (Or.inr ⟨by kernel_rfl, rfl⟩) (by assumption) ?_
   try simp only [List.getElem_toArray, List.getElem_cons_succ, List.getElem_cons_zero]
   try go_frame
  refine tkE ?_
  refine wpAnyH_take (i := 30) (v := (.bool false)) rfl (by kernel_rfl) (by kernel_rfl) (by kernel_rfl) (fun _ _ _ h => h) (Or.inl ⟨by kernel_rfl, fun W hSW => by go_simp; try with_reducible rfl⟩) (by assumption) ?_
  try simp only [List.getElem_toArray, List.getElem_cons_succ, List.getElem_cons_zero]
  try go_frame
  refine wpAnyH_take (i := 31) (v := ?_) rfl (by kernel_rfl) (by kernel_rfl) (by kernel_rfl) (fun _ _ _ h => h) (Or.inl ⟨by kernel_rfl, fun W hSW => by go_simp; try with_reducible rfl⟩) (by assumption) ?_
  try simp only [List.getElem_toArray, List.getElem_cons_succ, List.getElem_cons_zero]
  try go_frame
  refine wpAnyH_done (by kernel_rfl) ?_ _
  go_wp2
  go_ret
  exact ⟨_, rfl, HNX.out _ (k14.trans (Kept.refl _ w4).drew.drew)⟩

end Go.Proofs.YtffnppfoofifgaaGreat
