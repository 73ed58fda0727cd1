/- The contract of the document's host: Take, further ways. (Written by gen_hrtake.py.) -/
import Derived.Test.YtffnppfoofifgaaGreatTk
import Derived.Test.YtffnppfoofifgaaGreatHrTake
namespace Go.Proofs.YtffnppfoofifgaaGreat
open Go.RowKit

set_option maxHeartbeats 8000000 in
set_option maxRecDepth 100000 in
theorem rTake_3src (b : Nat) (h : Hd) (hg : GoodD h) (dst src : List UInt8) (hdst : dst.length = 6) (hsrc : src.length = 6) (ty : Int) (x : ByteArray) (hsz : x.size ≤ 1000000) (w : World) (H : HdIn w b h) (dc : Dc) (l : List Tg) (hl : l.length ≤ 1000000) (hls : ∀ t ∈ l, t.value.size ≤ 1000000) (hge : getE ⟨dst, src, ty, x⟩ = (dc, l, true)) (hm : dst = h.mac) (hst : h.state = 3) (hcd : dc.code = 167) (hc : ¬ src = h.ac) :
    Calls Tryz.prog 18 #[.pointer (some ⟨b, 0, none⟩), frV ⟨dst, src, ty, x⟩] w fun e w' => ∃ u, e = .returned u ∧ OwnE w' w.heap.size u [] ∧ HdIn w' b h ∧ Kept (fun i => i = b) w w' := by
  obtain ⟨x0, x1, x2, x3, x4, x5, hx⟩ := six_cells hg.mac
  obtain ⟨y0, y1, y2, y3, y4, y5, hy⟩ := six_cells hg.ac
  obtain ⟨d0, d1, d2, d3, d4, d5, hd⟩ := six_cells hdst
  obtain ⟨s0, s1, s2, s3, s4, s5, hs⟩ := six_cells hsrc
  have hfv : frV ⟨dst, src, ty, x⟩ = .agg #[.int .u8 d0, .int .u8 d1, .int .u8 d2, .int .u8 d3, .int .u8 d4, .int .u8 d5, .int .u8 s0, .int .u8 s1, .int .u8 s2, .int .u8 s3, .int .u8 s4, .int .u8 s5, .int .i64 ty, .string x] := by unfold frV frList; simp only []; rw [hd, hs]; rfl
  have HRd := hid (fun W => rRead_any ⟨dst, src, ty, x⟩ hdst hsrc hsz W)
  rw [hfv] at HRd ⊢
  have hE := mac_eq dst h.mac hdst hg.mac
  rw [hd, hx] at hE
  have hE3 := mac_eq src h.ac hsrc hg.ac
  rw [hs, hy] at hE3
  obtain ⟨w1, hw1⟩ : ∃ w1, w1 = w.alloc (.cells #[.int .u8 d0, .int .u8 d1, .int .u8 d2, .int .u8 d3, .int .u8 d4, .int .u8 d5, .int .u8 s0, .int .u8 s1, .int .u8 s2, .int .u8 s3, .int .u8 s4, .int .u8 s5, .int .i64 ty, .string x] 55) := ⟨_, rfl⟩
  have Hw1 := hid hw1
  have K1 : Hid (Kept (fun _ => False) w w1) := by rw [hw1]; exact (Kept.refl _ w).alloc _
  obtain ⟨fb, hfb⟩ : ∃ fb, fb = w.heap.size := ⟨_, rfl⟩
  have O1 : Hid (Own14 w1 fb #[.int .u8 d0, .int .u8 d1, .int .u8 d2, .int .u8 d3, .int .u8 d4, .int .u8 d5, .int .u8 s0, .int .u8 s1, .int .u8 s2, .int .u8 s3, .int .u8 s4, .int .u8 s5, .int .i64 ty, .string x]) := by rw [hw1, hfb]; exact own14_new w _
  have HFB := hid hfb
  have HH := hid H
  have HG := hid hg
  have HX := hid (And.intro hx hy)
  have HC := hid (fun W (hk : Kept (fun _ => False) w1 W) => (H.kept (K1.out.trans hk) (fun h => h)).cells hx hy)
  obtain ⟨p0, p1, p2, p3, p4, p5, p6, p7, p8, p9, p10, p11, p12, p13⟩ := cells14 (C := fun W => Kept (fun _ => False) w1 W) (X := fb) (fun W hk => O1.out.kept (hk))
  rw [hge] at HRd
  simp only [] at HRd
  rw [decide_eq_true hm] at hE
  have HLl := hid hl
  have HLs : Hid (∀ t ∈ l, t.value.size ≤ 140737488351232) := fun t ht => Nat.le_trans (hls t ht) (by decide)
  have st1 : (h.state == 1) = false := by simp; omega
  have st2 : (h.state == 2) = false := by simp; omega
  have st3 : (h.state == 3) = true := by simp [hst]
  have cd1 : ((dc.code : Int) == 167) = true := by simp; omega
  rw [decide_eq_false hc] at hE3
  clear hst hcd hc
  clear hl hls hge hm
  clear hfv hw1 hd hs H hx hy hdst hsrc hg hfb
  go_enter Tryz.func18, Tryz.ntmps18
  go_upto_region 1 with fail
  rw [← Hw1.out, ← HFB.out]
  have e0 := p0 w1 (Kept.refl _ w1)
  have e1 := p1 w1 (Kept.refl _ w1)
  have e2 := p2 w1 (Kept.refl _ w1)
  have e3 := p3 w1 (Kept.refl _ w1)
  have e4 := p4 w1 (Kept.refl _ w1)
  have e5 := p5 w1 (Kept.refl _ w1)
  have e6 := p6 w1 (Kept.refl _ w1)
  have e7 := p7 w1 (Kept.refl _ w1)
  have e8 := p8 w1 (Kept.refl _ w1)
  have e9 := p9 w1 (Kept.refl _ w1)
  have e10 := p10 w1 (Kept.refl _ w1)
  have e11 := p11 w1 (Kept.refl _ w1)
  have e12 := p12 w1 (Kept.refl _ w1)
  have e13 := p13 w1 (Kept.refl _ w1)
  go_wp2_with fail
  refine (HRd.out _).mono ?_
  rintro e w2 ⟨c, s, dd, p, n, cap, rfl, hgood, hk2⟩
  have K2 := hid hk2
  have HGd := hid hgood
  clear hk2 hgood e0 e1 e2 e3 e4 e5 e6 e7 e8 e9 e10 e11 e12 e13
  go_upto_region 2 with fail
  have KB : Hid (Kept (fun _ => False) w1 (w2.alloc (.cells #[.int .i64 c, .int .i64 s, .string dd] 82))) := K2.out.alloc _
  have B3 : Hid ((w2.alloc (.cells #[.int .i64 c, .int .i64 s, .string dd] 82)).heap[w2.heap.size]? = some (.cells #[.int .i64 c, .int .i64 s, .string dd] 82 (0, 0))) := heap_alloc_new w2 _
  have K23 : Hid (Kept (fun _ => False) w2 (w2.alloc (.cells #[.int .i64 c, .int .i64 s, .string dd] 82))) := (Kept.refl _ w2).alloc _
  have HDB := hid (Nat.le_trans K1.out.size K2.out.size)
  generalize w2.alloc (.cells #[.int .i64 c, .int .i64 s, .string dd] 82) = w3 at *
  generalize w2.heap.size = db at *
  clear p0 p1 p2 p3 p4 p5 p6 p7 p8 p9 p10 p11 p12 p13
  obtain ⟨p0, p1, p2, p3, p4, p5, p6, p7, p8, p9, p10, p11, p12, p13⟩ := cells14 (C := fun W => Kept (fun _ => False) w3 W) (X := fb) (fun W hk => O1.out.kept (KB.out.trans hk))
  have r0 := fun W (hk : Kept (fun _ => False) w3 W) => (HC.out W (KB.out.trans hk)).c0
  have r1 := fun W (hk : Kept (fun _ => False) w3 W) => (HC.out W (KB.out.trans hk)).c1
  have r2 := fun W (hk : Kept (fun _ => False) w3 W) => (HC.out W (KB.out.trans hk)).c2
  have r3 := fun W (hk : Kept (fun _ => False) w3 W) => (HC.out W (KB.out.trans hk)).c3
  have r4 := fun W (hk : Kept (fun _ => False) w3 W) => (HC.out W (KB.out.trans hk)).c4
  have r5 := fun W (hk : Kept (fun _ => False) w3 W) => (HC.out W (KB.out.trans hk)).c5
  have r12 := fun W (hk : Kept (fun _ => False) w3 W) => (HC.out W (KB.out.trans hk)).c12
  have r13 := fun W (hk : Kept (fun _ => False) w3 W) => (HC.out W (KB.out.trans hk)).c13
  have r14 := fun W (hk : Kept (fun _ => False) w3 W) => (HC.out W (KB.out.trans hk)).c14
  have r15 := fun W (hk : Kept (fun _ => False) w3 W) => (HC.out W (KB.out.trans hk)).c15
  have r16 := fun W (hk : Kept (fun _ => False) w3 W) => (HC.out W (KB.out.trans hk)).c16
  have r17 := fun W (hk : Kept (fun _ => False) w3 W) => (HC.out W (KB.out.trans hk)).c17
  have r10 := fun W (hk : Kept (fun _ => False) w3 W) => (HC.out W (KB.out.trans hk)).c10
  have r11 := fun W (hk : Kept (fun _ => False) w3 W) => (HC.out W (KB.out.trans hk)).c11
  refine wp_region_held_drew (S := Kept (fun _ => False) w3) (by kernel_rfl) ((Kept.refl _ w3).drew) (fun hSd => ?_)
  refine wpAnyH_take (i := 0) (v := ?_) rfl (by kernel_rfl) (by kernel_rfl) (by kernel_rfl) (fun _ _ _ h => h) (Or.inl ⟨by kernel_rfl, fun W hSW => by go_simp; try with_reducible rfl⟩) (by assumption) ?_
  try simp only [List.getElem_toArray, List.getElem_cons_zero]
  try go_frame
  refine Tks.out (l := [(1, some (some (.bool false))), (2, some (some (.bool false)))]) ?_
  iterate 2
   refine tkV rfl (by kernel_rfl) (by kernel_rfl) (by kernel_rfl) (fun _ _ _ h => h) (Or.inl ⟨by kernel_rfl, fun W hSW => by go_simp; try with_reducible rfl⟩) (by assumption) ?_
   try simp only [List.getElem_toArray, List.getElem_cons_succ, List.getElem_cons_zero]
   try go_frame
  refine tkE ?_
  refine Tks.out (l := [(3, some none), (4, some none), (5, some none), (6, some none), (7, some none), (8, some none)]) ?_
  iterate 6
   refine tkT (v := ?_) rfl (by kernel_rfl) (by kernel_rfl) (by kernel_rfl) (fun _ _ _ h => h) (Or.inl ⟨by kernel_rfl, fun W hSW => by go_simp; try with_reducible rfl⟩) (by assumption) ?_
   try simp only [List.getElem_toArray, List.getElem_cons_succ, List.getElem_cons_zero]
   try go_frame
  refine tkE ?_
  refine Tks.out (l := [(9, some (some (.bool false))), (10, some (some (.bool false)))]) ?_
  iterate 2
   refine tkV rfl (by kernel_rfl) (by kernel_rfl) (by kernel_rfl) (fun _ _ _ h => h) (Or.inl ⟨by kernel_rfl, fun W hSW => by go_simp; try with_reducible rfl⟩) (by assumption) ?_
   try simp only [List.getElem_toArray, List.getElem_cons_succ, List.getElem_cons_zero]
   try go_frame
  refine tkE ?_
  refine wpAnyH_done (by kernel_rfl) ?_ _
  obtain ⟨hc9, hs9, hn9, hown⟩ := HGd.out trivial
  subst hc9
  subst hs9
  subst hn9
  have HFd := hid (fun W (hk : Kept (fun _ => False) w3 W) => refFind_any _ l 259 W ((hown.tags.kept0 K23.out).kept0 hk) HLl.out HLs.out)
  have HTg := hid (fun W (hk : Kept (fun _ => False) w3 W) => (hown.tags.kept0 K23.out).kept0 hk)
  clear hown HGd
  generalize hfv1 : (findF l 259).1 = fv1 at *
  generalize hfn1 : (findF l 259).2 = fn1 at *
  have HMD : Hid (mineD h l = (h.uniq.toList.isEmpty || (decide (0 < (fn1 : Int)) && (fv1.toList == h.uniq.toList)))) := by
    show mineD h l = _
    unfold mineD
    rw [hfv1, hfn1]
    simp
  clear hfv1 hfn1
  obtain ⟨wd, hwd⟩ : ∃ wd, wd = w3.drew := ⟨_, rfl⟩
  have KD : Hid (Kept (fun _ => False) w3 wd) := by rw [hwd]; exact (Kept.refl _ w3).drew
  rw [← hwd]
  clear hwd
  go_wp2_with fail
  refine (HFd.out _ KD.out).mono ?_
  rintro e w4 ⟨rfl, hk4⟩
  have K34 := hid (KD.out.trans hk4)
  have K14 := hid (KB.out.trans (KD.out.trans hk4))
  clear hk4 KD HFd
  go_upto_region 5 with fail
  clear p0 p1 p2 p3 p4 p5 p6 p7 p8 p9 p10 p11 p12 p13 r0 r1 r2 r3 r4 r5 r10 r11 r12 r13 r14 r15 r16 r17
  obtain ⟨p0, p1, p2, p3, p4, p5, p6, p7, p8, p9, p10, p11, p12, p13⟩ := cells14 (C := fun W => Kept (fun _ => False) w4 W) (X := fb) (fun W hk => O1.out.kept (K14.out.trans hk))
  have r0 := fun W (hk : Kept (fun _ => False) w4 W) => (HC.out W (K14.out.trans hk)).c0
  have r1 := fun W (hk : Kept (fun _ => False) w4 W) => (HC.out W (K14.out.trans hk)).c1
  have r2 := fun W (hk : Kept (fun _ => False) w4 W) => (HC.out W (K14.out.trans hk)).c2
  have r3 := fun W (hk : Kept (fun _ => False) w4 W) => (HC.out W (K14.out.trans hk)).c3
  have r4 := fun W (hk : Kept (fun _ => False) w4 W) => (HC.out W (K14.out.trans hk)).c4
  have r5 := fun W (hk : Kept (fun _ => False) w4 W) => (HC.out W (K14.out.trans hk)).c5
  have r12 := fun W (hk : Kept (fun _ => False) w4 W) => (HC.out W (K14.out.trans hk)).c12
  have r13 := fun W (hk : Kept (fun _ => False) w4 W) => (HC.out W (K14.out.trans hk)).c13
  have r14 := fun W (hk : Kept (fun _ => False) w4 W) => (HC.out W (K14.out.trans hk)).c14
  have r15 := fun W (hk : Kept (fun _ => False) w4 W) => (HC.out W (K14.out.trans hk)).c15
  have r16 := fun W (hk : Kept (fun _ => False) w4 W) => (HC.out W (K14.out.trans hk)).c16
  have r17 := fun W (hk : Kept (fun _ => False) w4 W) => (HC.out W (K14.out.trans hk)).c17
  have r10 := fun W (hk : Kept (fun _ => False) w4 W) => (HC.out W (K14.out.trans hk)).c10
  have r11 := fun W (hk : Kept (fun _ => False) w4 W) => (HC.out W (K14.out.trans hk)).c11
  have hdl := (Array.getElem?_eq_some_iff.1 B3.out).1
  have q0 : ∀ W, Kept (fun _ => False) w4 W → W.cell? ⟨db, 0, none⟩ = some (.int .i64 (dc.code : Int)) := fun W hk => by simp [World.cell?, ((K34.out.trans hk).block db hdl (fun h => h)).trans B3.out]
  have q1 : ∀ W, Kept (fun _ => False) w4 W → W.cell? ⟨db, 1, none⟩ = some (.int .i64 (dc.session : Int)) := fun W hk => by simp [World.cell?, ((K34.out.trans hk).block db hdl (fun h => h)).trans B3.out]
  have u7 := (HC.out w4 K14.out).c7
  have u10 := (HC.out w4 K14.out).c10
  have v0 := q0 w4 (Kept.refl _ w4)
  have v1 := q1 w4 (Kept.refl _ w4)
  obtain ⟨mq, hmq⟩ : ∃ mq, mineD h l = mq := ⟨_, rfl⟩
  have HMQ := hid hmq
  go_cut [10] from 37 to 53 (fun v wx => v = .bool mq ∧ wx = w4)
  case first =>
    by_cases hu : h.uniq.toList.isEmpty = true
    · have hu1 : h.uniq.toList = [] := List.isEmpty_iff.1 hu
      have hq : true = mq := by rw [← hmq, HMD.out, hu]; rfl
      subst hq
      go_wp2
      go_meet
      exact ⟨rfl, rfl⟩
    · have hu0 : h.uniq.toList.isEmpty = false := by simpa using hu
      have hu1 : ¬ h.uniq.toList = [] := fun e => hu (List.isEmpty_iff.2 e)
      by_cases hN : (0 : Int) < (fn1 : Int)
      · have hq : (fv1.toList == h.uniq.toList) = mq := by rw [← hmq, HMD.out, hu0, decide_eq_true hN]; simp
        clear HMD hu
        go_wp2
        go_meet
        exact ⟨by first | rfl | (rw [← hq]) | trace_state, rfl⟩
      · have hq : false = mq := by rw [← hmq, HMD.out, hu0, decide_eq_false hN]; rfl
        subst hq
        go_wp2
        go_meet
        exact ⟨rfl, rfl⟩
  case rest =>
    obtain ⟨rfl, hwx⟩ := hcut
    replace hwx := hwx.symm
    subst hwx
    clear HMD u7
    go_upto_region 17 with fail
    refine wp_region_held_drew (S := Kept (fun _ => False) w4) (by kernel_rfl) ((Kept.refl _ w4).drew) (fun hSd => ?_)
    refine Tks.out (l := [(0, some none), (1, some none), (2, some none), (3, some none)]) ?_
    iterate 4
     refine tkT (v := ?_) rfl (by kernel_rfl) (by kernel_rfl) (by kernel_rfl) (fun _ _ _ h => h) (Or.inl ⟨by kernel_rfl, fun W hSW => by go_simp; try with_reducible rfl⟩) (by assumption) ?_
     try simp only [List.getElem_toArray, List.getElem_cons_succ, List.getElem_cons_zero]
     try go_frame
    refine tkE ?_
    refine Tks.out (l := [(4, some (some (.bool false))), (5, some (some (.bool false)))]) ?_
    iterate 2
     refine tkV rfl (by kernel_rfl) (by kernel_rfl) (by kernel_rfl) (fun _ _ _ h => h) (Or.inl ⟨by kernel_rfl, fun W hSW => by go_simp; try with_reducible rfl⟩) (by assumption) ?_
     try simp only [List.getElem_toArray, List.getElem_cons_succ, List.getElem_cons_zero]
     try go_frame
    refine tkE ?_
    refine Tks.out (l := [(6, none), (7, none), (8, none)]) ?_
    iterate 3
     refine tkS rfl (by kernel_rfl) (by kernel_rfl) (by kernel_rfl) (fun _ _ _ h => h) (Or.inr ⟨by kernel_rfl, rfl⟩) (by assumption) ?_
     try simp only [List.getElem_toArray, List.getElem_cons_succ, List.getElem_cons_zero]
     try go_frame
    refine tkE ?_
    refine Tks.out (l := [(9, some (some (.bool false))), (10, some (some (.bool false)))]) ?_
    iterate 2
     refine tkV rfl (by kernel_rfl) (by kernel_rfl) (by kernel_rfl) (fun _ _ _ h => h) (Or.inl ⟨by kernel_rfl, fun W hSW => by go_simp; try with_reducible rfl⟩) (by assumption) ?_
     try simp only [List.getElem_toArray, List.getElem_cons_succ, List.getElem_cons_zero]
     try go_frame
    refine tkE ?_
    refine Tks.out (l := [(11, none), (12, none), (13, none), (14, none), (15, none), (16, none), (17, none)]) ?_
    iterate 7
     refine tkS rfl (by kernel_rfl) (by kernel_rfl) (by kernel_rfl) (fun _ _ _ h => h) (Or.inr ⟨by kernel_rfl, rfl⟩) (by assumption) ?_
     try simp only [List.getElem_toArray, List.getElem_cons_succ, List.getElem_cons_zero]
     try go_frame
    refine tkE ?_
    refine Tks.out (l := [(18, some (some (.bool false))), (19, some (some (.bool false)))]) ?_
    iterate 2
     refine tkV rfl (by kernel_rfl) (by kernel_rfl) (by kernel_rfl) (fun _ _ _ h => h) (Or.inl ⟨by kernel_rfl, fun W hSW => by go_simp; try with_reducible rfl⟩) (by assumption) ?_
     try simp only [List.getElem_toArray, List.getElem_cons_succ, List.getElem_cons_zero]
     try go_frame
    refine tkE ?_
    refine wpAnyH_take (i := 20) rfl (by kernel_rfl) (by kernel_rfl) (by kernel_rfl) (fun _ _ _ h => h) (Or.inr ⟨by kernel_rfl, rfl⟩) (by assumption) ?_
    try simp only [List.getElem_toArray, List.getElem_cons_succ, List.getElem_cons_zero]
    try go_frame
    refine Tks.out (l := [(21, some (some (.bool false))), (22, some (some (.bool false)))]) ?_
    iterate 2
     refine tkV rfl (by kernel_rfl) (by kernel_rfl) (by kernel_rfl) (fun _ _ _ h => h) (Or.inl ⟨by kernel_rfl, fun W hSW => by go_simp; try with_reducible rfl⟩) (by assumption) ?_
     try simp only [List.getElem_toArray, List.getElem_cons_succ, List.getElem_cons_zero]
     try go_frame
    refine tkE ?_
    refine wpAnyH_done (by kernel_rfl) ?_ _
    go_upto_region 21 with fail
    refine wp_region_held_drew (S := Kept (fun _ => False) w4) (by kernel_rfl) (((Kept.refl _ w4).drew).drew) (fun hSd => ?_)
    refine Tks.out (l := [(0, some none), (1, some none), (2, some none), (3, some none)]) ?_
    iterate 4
     refine tkT (v := ?_) rfl (by kernel_rfl) (by kernel_rfl) (by kernel_rfl) (fun _ _ _ h => h) (Or.inl ⟨by kernel_rfl, fun W hSW => by go_simp; try with_reducible rfl⟩) (by assumption) ?_
     try simp only [List.getElem_toArray, List.getElem_cons_succ, List.getElem_cons_zero]
     try go_frame
    refine tkE ?_
    refine Tks.out (l := [(4, some (some (.bool true))), (5, some (some (.bool true)))]) ?_
    iterate 2
     refine tkV rfl (by kernel_rfl) (by kernel_rfl) (by kernel_rfl) (fun _ _ _ h => h) (Or.inl ⟨by kernel_rfl, fun W hSW => by go_simp; try with_reducible rfl⟩) (by assumption) ?_
     try simp only [List.getElem_toArray, List.getElem_cons_succ, List.getElem_cons_zero]
     try go_frame
    refine tkE ?_
    refine Tks.out (l := [(6, some none), (7, some none)]) ?_
    iterate 2
     refine tkT (v := ?_) rfl (by kernel_rfl) (by kernel_rfl) (by kernel_rfl) (fun _ _ _ h => h) (Or.inl ⟨by kernel_rfl, fun W hSW => by go_simp; try with_reducible rfl⟩) (by assumption) ?_
     try simp only [List.getElem_toArray, List.getElem_cons_succ, List.getElem_cons_zero]
     try go_frame
    refine tkE ?_
    refine Tks.out (l := [(8, some (some (.bool true))), (9, some (some (.bool true))), (10, some (some (.bool true)))]) ?_
    iterate 3
     refine tkV rfl (by kernel_rfl) (by kernel_rfl) (by kernel_rfl) (fun _ _ _ h => h) (Or.inl ⟨by kernel_rfl, fun W hSW => by go_simp; try with_reducible rfl⟩) (by assumption) ?_
     try simp only [List.getElem_toArray, List.getElem_cons_succ, List.getElem_cons_zero]
     try go_frame
    refine tkE ?_
    refine Tks.out (l := [(11, some none), (12, some none), (13, some none), (14, some none), (15, some none), (16, some none)]) ?_
    iterate 6
     refine tkT (v := ?_) rfl (by kernel_rfl) (by kernel_rfl) (by kernel_rfl) (fun _ _ _ h => h) (Or.inl ⟨by kernel_rfl, fun W hSW => by go_simp; try with_reducible rfl⟩) (by assumption) ?_
     try simp only [List.getElem_toArray, List.getElem_cons_succ, List.getElem_cons_zero]
     try go_frame
    refine tkE ?_
    refine Tks.out (l := [(17, some (some (.bool false))), (18, some (some (.bool false))), (19, some (some (.bool false)))]) ?_
    iterate 3
     refine tkV rfl (by kernel_rfl) (by kernel_rfl) (by kernel_rfl) (fun _ _ _ h => h) (Or.inl ⟨by kernel_rfl, fun W hSW => by go_simp; try with_reducible rfl⟩) (by assumption) ?_
     try simp only [List.getElem_toArray, List.getElem_cons_succ, List.getElem_cons_zero]
     try go_frame
    refine tkE ?_
    refine Tks.out (l := [(20, none), (21, none), (22, none), (23, none), (24, none), (25, none), (26, none)]) ?_
    iterate 7
     refine tkS rfl (by kernel_rfl) (by kernel_rfl) (by kernel_rfl) (fun _ _ _ h => h) (Or.inr ⟨by kernel_rfl, rfl⟩) (by assumption) ?_
     try simp only [List.getElem_toArray, List.getElem_cons_succ, List.getElem_cons_zero]
     try go_frame
    refine tkE ?_
    refine Tks.out (l := [(27, some (some (.bool false))), (28, some (some (.bool false)))]) ?_
    iterate 2
     refine tkV rfl (by kernel_rfl) (by kernel_rfl) (by kernel_rfl) (fun _ _ _ h => h) (Or.inl ⟨by kernel_rfl, fun W hSW => by go_simp; try with_reducible rfl⟩) (by assumption) ?_
     try simp only [List.getElem_toArray, List.getElem_cons_succ, List.getElem_cons_zero]
     try go_frame
    refine tkE ?_
    refine wpAnyH_done (by kernel_rfl) ?_ _
    clear p0 p1 p2 p3 p4 p5 p6 p7 p8 p9 p10 p11 p12 p13 r0 r1 r2 r3 r4 r5 r10 r11 r12 r13 r14 r15 r16 r17 q0 q1 u10 v0 v1
    go_wp2
    go_ret
    have hk9 := ((K1.out.trans K14.out).drew).drew
    exact ⟨_, rfl, OwnE.nil _ _, HH.out.kept hk9 (fun h => h), hk9.mono (fun _ _ h => h.elim)⟩

set_option maxHeartbeats 8000000 in
set_option maxRecDepth 100000 in
theorem rTake_3ses (b : Nat) (h : Hd) (hg : GoodD h) (dst src : List UInt8) (hdst : dst.length = 6) (hsrc : src.length = 6) (ty : Int) (x : ByteArray) (hsz : x.size ≤ 1000000) (w : World) (H : HdIn w b h) (dc : Dc) (l : List Tg) (hl : l.length ≤ 1000000) (hls : ∀ t ∈ l, t.value.size ≤ 1000000) (hge : getE ⟨dst, src, ty, x⟩ = (dc, l, true)) (hm : dst = h.mac) (hst : h.state = 3) (hcd : dc.code = 167) (hc : src = h.ac) (hss : ¬ (dc.session : Int) = h.session) :
    Calls Tryz.prog 18 #[.pointer (some ⟨b, 0, none⟩), frV ⟨dst, src, ty, x⟩] w fun e w' => ∃ u, e = .returned u ∧ OwnE w' w.heap.size u [] ∧ HdIn w' b h ∧ Kept (fun i => i = b) w w' := by
  obtain ⟨x0, x1, x2, x3, x4, x5, hx⟩ := six_cells hg.mac
  obtain ⟨y0, y1, y2, y3, y4, y5, hy⟩ := six_cells hg.ac
  obtain ⟨d0, d1, d2, d3, d4, d5, hd⟩ := six_cells hdst
  obtain ⟨s0, s1, s2, s3, s4, s5, hs⟩ := six_cells hsrc
  have hfv : frV ⟨dst, src, ty, x⟩ = .agg #[.int .u8 d0, .int .u8 d1, .int .u8 d2, .int .u8 d3, .int .u8 d4, .int .u8 d5, .int .u8 s0, .int .u8 s1, .int .u8 s2, .int .u8 s3, .int .u8 s4, .int .u8 s5, .int .i64 ty, .string x] := by unfold frV frList; simp only []; rw [hd, hs]; rfl
  have HRd := hid (fun W => rRead_any ⟨dst, src, ty, x⟩ hdst hsrc hsz W)
  rw [hfv] at HRd ⊢
  have hE := mac_eq dst h.mac hdst hg.mac
  rw [hd, hx] at hE
  have hE3 := mac_eq src h.ac hsrc hg.ac
  rw [hs, hy] at hE3
  obtain ⟨w1, hw1⟩ : ∃ w1, w1 = w.alloc (.cells #[.int .u8 d0, .int .u8 d1, .int .u8 d2, .int .u8 d3, .int .u8 d4, .int .u8 d5, .int .u8 s0, .int .u8 s1, .int .u8 s2, .int .u8 s3, .int .u8 s4, .int .u8 s5, .int .i64 ty, .string x] 55) := ⟨_, rfl⟩
  have Hw1 := hid hw1
  have K1 : Hid (Kept (fun _ => False) w w1) := by rw [hw1]; exact (Kept.refl _ w).alloc _
  obtain ⟨fb, hfb⟩ : ∃ fb, fb = w.heap.size := ⟨_, rfl⟩
  have O1 : Hid (Own14 w1 fb #[.int .u8 d0, .int .u8 d1, .int .u8 d2, .int .u8 d3, .int .u8 d4, .int .u8 d5, .int .u8 s0, .int .u8 s1, .int .u8 s2, .int .u8 s3, .int .u8 s4, .int .u8 s5, .int .i64 ty, .string x]) := by rw [hw1, hfb]; exact own14_new w _
  have HFB := hid hfb
  have HH := hid H
  have HG := hid hg
  have HX := hid (And.intro hx hy)
  have HC := hid (fun W (hk : Kept (fun _ => False) w1 W) => (H.kept (K1.out.trans hk) (fun h => h)).cells hx hy)
  obtain ⟨p0, p1, p2, p3, p4, p5, p6, p7, p8, p9, p10, p11, p12, p13⟩ := cells14 (C := fun W => Kept (fun _ => False) w1 W) (X := fb) (fun W hk => O1.out.kept (hk))
  rw [hge] at HRd
  simp only [] at HRd
  rw [decide_eq_true hm] at hE
  have HLl := hid hl
  have HLs : Hid (∀ t ∈ l, t.value.size ≤ 140737488351232) := fun t ht => Nat.le_trans (hls t ht) (by decide)
  have st1 : (h.state == 1) = false := by simp; omega
  have st2 : (h.state == 2) = false := by simp; omega
  have st3 : (h.state == 3) = true := by simp [hst]
  have cd1 : ((dc.code : Int) == 167) = true := by simp; omega
  have ss1 : ((dc.session : Int) == h.session) = false := by simpa using hss
  rw [decide_eq_true hc] at hE3
  clear hst hcd hc hss
  clear hl hls hge hm
  clear hfv hw1 hd hs H hx hy hdst hsrc hg hfb
  go_enter Tryz.func18, Tryz.ntmps18
  go_upto_region 1 with fail
  rw [← Hw1.out, ← HFB.out]
  have e0 := p0 w1 (Kept.refl _ w1)
  have e1 := p1 w1 (Kept.refl _ w1)
  have e2 := p2 w1 (Kept.refl _ w1)
  have e3 := p3 w1 (Kept.refl _ w1)
  have e4 := p4 w1 (Kept.refl _ w1)
  have e5 := p5 w1 (Kept.refl _ w1)
  have e6 := p6 w1 (Kept.refl _ w1)
  have e7 := p7 w1 (Kept.refl _ w1)
  have e8 := p8 w1 (Kept.refl _ w1)
  have e9 := p9 w1 (Kept.refl _ w1)
  have e10 := p10 w1 (Kept.refl _ w1)
  have e11 := p11 w1 (Kept.refl _ w1)
  have e12 := p12 w1 (Kept.refl _ w1)
  have e13 := p13 w1 (Kept.refl _ w1)
  go_wp2_with fail
  refine (HRd.out _).mono ?_
  rintro e w2 ⟨c, s, dd, p, n, cap, rfl, hgood, hk2⟩
  have K2 := hid hk2
  have HGd := hid hgood
  clear hk2 hgood e0 e1 e2 e3 e4 e5 e6 e7 e8 e9 e10 e11 e12 e13
  go_upto_region 2 with fail
  have KB : Hid (Kept (fun _ => False) w1 (w2.alloc (.cells #[.int .i64 c, .int .i64 s, .string dd] 82))) := K2.out.alloc _
  have B3 : Hid ((w2.alloc (.cells #[.int .i64 c, .int .i64 s, .string dd] 82)).heap[w2.heap.size]? = some (.cells #[.int .i64 c, .int .i64 s, .string dd] 82 (0, 0))) := heap_alloc_new w2 _
  have K23 : Hid (Kept (fun _ => False) w2 (w2.alloc (.cells #[.int .i64 c, .int .i64 s, .string dd] 82))) := (Kept.refl _ w2).alloc _
  have HDB := hid (Nat.le_trans K1.out.size K2.out.size)
  generalize w2.alloc (.cells #[.int .i64 c, .int .i64 s, .string dd] 82) = w3 at *
  generalize w2.heap.size = db at *
  clear p0 p1 p2 p3 p4 p5 p6 p7 p8 p9 p10 p11 p12 p13
  obtain ⟨p0, p1, p2, p3, p4, p5, p6, p7, p8, p9, p10, p11, p12, p13⟩ := cells14 (C := fun W => Kept (fun _ => False) w3 W) (X := fb) (fun W hk => O1.out.kept (KB.out.trans hk))
  have r0 := fun W (hk : Kept (fun _ => False) w3 W) => (HC.out W (KB.out.trans hk)).c0
  have r1 := fun W (hk : Kept (fun _ => False) w3 W) => (HC.out W (KB.out.trans hk)).c1
  have r2 := fun W (hk : Kept (fun _ => False) w3 W) => (HC.out W (KB.out.trans hk)).c2
  have r3 := fun W (hk : Kept (fun _ => False) w3 W) => (HC.out W (KB.out.trans hk)).c3
  have r4 := fun W (hk : Kept (fun _ => False) w3 W) => (HC.out W (KB.out.trans hk)).c4
  have r5 := fun W (hk : Kept (fun _ => False) w3 W) => (HC.out W (KB.out.trans hk)).c5
  have r12 := fun W (hk : Kept (fun _ => False) w3 W) => (HC.out W (KB.out.trans hk)).c12
  have r13 := fun W (hk : Kept (fun _ => False) w3 W) => (HC.out W (KB.out.trans hk)).c13
  have r14 := fun W (hk : Kept (fun _ => False) w3 W) => (HC.out W (KB.out.trans hk)).c14
  have r15 := fun W (hk : Kept (fun _ => False) w3 W) => (HC.out W (KB.out.trans hk)).c15
  have r16 := fun W (hk : Kept (fun _ => False) w3 W) => (HC.out W (KB.out.trans hk)).c16
  have r17 := fun W (hk : Kept (fun _ => False) w3 W) => (HC.out W (KB.out.trans hk)).c17
  have r10 := fun W (hk : Kept (fun _ => False) w3 W) => (HC.out W (KB.out.trans hk)).c10
  have r11 := fun W (hk : Kept (fun _ => False) w3 W) => (HC.out W (KB.out.trans hk)).c11
  refine wp_region_held_drew (S := Kept (fun _ => False) w3) (by kernel_rfl) ((Kept.refl _ w3).drew) (fun hSd => ?_)
  refine wpAnyH_take (i := 0) (v := ?_) rfl (by kernel_rfl) (by kernel_rfl) (by kernel_rfl) (fun _ _ _ h => h) (Or.inl ⟨by kernel_rfl, fun W hSW => by go_simp; try with_reducible rfl⟩) (by assumption) ?_
  try simp only [List.getElem_toArray, List.getElem_cons_zero]
  try go_frame
  refine Tks.out (l := [(1, some (some (.bool false))), (2, some (some (.bool false)))]) ?_
  iterate 2
   refine tkV rfl (by kernel_rfl) (by kernel_rfl) (by kernel_rfl) (fun _ _ _ h => h) (Or.inl ⟨by kernel_rfl, fun W hSW => by go_simp; try with_reducible rfl⟩) (by assumption) ?_
   try simp only [List.getElem_toArray, List.getElem_cons_succ, List.getElem_cons_zero]
   try go_frame
  refine tkE ?_
  refine Tks.out (l := [(3, some none), (4, some none), (5, some none), (6, some none), (7, some none), (8, some none)]) ?_
  iterate 6
   refine tkT (v := ?_) rfl (by kernel_rfl) (by kernel_rfl) (by kernel_rfl) (fun _ _ _ h => h) (Or.inl ⟨by kernel_rfl, fun W hSW => by go_simp; try with_reducible rfl⟩) (by assumption) ?_
   try simp only [List.getElem_toArray, List.getElem_cons_succ, List.getElem_cons_zero]
   try go_frame
  refine tkE ?_
  refine Tks.out (l := [(9, some (some (.bool false))), (10, some (some (.bool false)))]) ?_
  iterate 2
   refine tkV rfl (by kernel_rfl) (by kernel_rfl) (by kernel_rfl) (fun _ _ _ h => h) (Or.inl ⟨by kernel_rfl, fun W hSW => by go_simp; try with_reducible rfl⟩) (by assumption) ?_
   try simp only [List.getElem_toArray, List.getElem_cons_succ, List.getElem_cons_zero]
   try go_frame
  refine tkE ?_
  refine wpAnyH_done (by kernel_rfl) ?_ _
  obtain ⟨hc9, hs9, hn9, hown⟩ := HGd.out trivial
  subst hc9
  subst hs9
  subst hn9
  have HFd := hid (fun W (hk : Kept (fun _ => False) w3 W) => refFind_any _ l 259 W ((hown.tags.kept0 K23.out).kept0 hk) HLl.out HLs.out)
  have HTg := hid (fun W (hk : Kept (fun _ => False) w3 W) => (hown.tags.kept0 K23.out).kept0 hk)
  clear hown HGd
  generalize hfv1 : (findF l 259).1 = fv1 at *
  generalize hfn1 : (findF l 259).2 = fn1 at *
  have HMD : Hid (mineD h l = (h.uniq.toList.isEmpty || (decide (0 < (fn1 : Int)) && (fv1.toList == h.uniq.toList)))) := by
    show mineD h l = _
    unfold mineD
    rw [hfv1, hfn1]
    simp
  clear hfv1 hfn1
  obtain ⟨wd, hwd⟩ : ∃ wd, wd = w3.drew := ⟨_, rfl⟩
  have KD : Hid (Kept (fun _ => False) w3 wd) := by rw [hwd]; exact (Kept.refl _ w3).drew
  rw [← hwd]
  clear hwd
  go_wp2_with fail
  refine (HFd.out _ KD.out).mono ?_
  rintro e w4 ⟨rfl, hk4⟩
  have K34 := hid (KD.out.trans hk4)
  have K14 := hid (KB.out.trans (KD.out.trans hk4))
  clear hk4 KD HFd
  go_upto_region 5 with fail
  clear p0 p1 p2 p3 p4 p5 p6 p7 p8 p9 p10 p11 p12 p13 r0 r1 r2 r3 r4 r5 r10 r11 r12 r13 r14 r15 r16 r17
  obtain ⟨p0, p1, p2, p3, p4, p5, p6, p7, p8, p9, p10, p11, p12, p13⟩ := cells14 (C := fun W => Kept (fun _ => False) w4 W) (X := fb) (fun W hk => O1.out.kept (K14.out.trans hk))
  have r0 := fun W (hk : Kept (fun _ => False) w4 W) => (HC.out W (K14.out.trans hk)).c0
  have r1 := fun W (hk : Kept (fun _ => False) w4 W) => (HC.out W (K14.out.trans hk)).c1
  have r2 := fun W (hk : Kept (fun _ => False) w4 W) => (HC.out W (K14.out.trans hk)).c2
  have r3 := fun W (hk : Kept (fun _ => False) w4 W) => (HC.out W (K14.out.trans hk)).c3
  have r4 := fun W (hk : Kept (fun _ => False) w4 W) => (HC.out W (K14.out.trans hk)).c4
  have r5 := fun W (hk : Kept (fun _ => False) w4 W) => (HC.out W (K14.out.trans hk)).c5
  have r12 := fun W (hk : Kept (fun _ => False) w4 W) => (HC.out W (K14.out.trans hk)).c12
  have r13 := fun W (hk : Kept (fun _ => False) w4 W) => (HC.out W (K14.out.trans hk)).c13
  have r14 := fun W (hk : Kept (fun _ => False) w4 W) => (HC.out W (K14.out.trans hk)).c14
  have r15 := fun W (hk : Kept (fun _ => False) w4 W) => (HC.out W (K14.out.trans hk)).c15
  have r16 := fun W (hk : Kept (fun _ => False) w4 W) => (HC.out W (K14.out.trans hk)).c16
  have r17 := fun W (hk : Kept (fun _ => False) w4 W) => (HC.out W (K14.out.trans hk)).c17
  have r10 := fun W (hk : Kept (fun _ => False) w4 W) => (HC.out W (K14.out.trans hk)).c10
  have r11 := fun W (hk : Kept (fun _ => False) w4 W) => (HC.out W (K14.out.trans hk)).c11
  have hdl := (Array.getElem?_eq_some_iff.1 B3.out).1
  have q0 : ∀ W, Kept (fun _ => False) w4 W → W.cell? ⟨db, 0, none⟩ = some (.int .i64 (dc.code : Int)) := fun W hk => by simp [World.cell?, ((K34.out.trans hk).block db hdl (fun h => h)).trans B3.out]
  have q1 : ∀ W, Kept (fun _ => False) w4 W → W.cell? ⟨db, 1, none⟩ = some (.int .i64 (dc.session : Int)) := fun W hk => by simp [World.cell?, ((K34.out.trans hk).block db hdl (fun h => h)).trans B3.out]
  have u7 := (HC.out w4 K14.out).c7
  have u10 := (HC.out w4 K14.out).c10
  have v0 := q0 w4 (Kept.refl _ w4)
  have v1 := q1 w4 (Kept.refl _ w4)
  obtain ⟨mq, hmq⟩ : ∃ mq, mineD h l = mq := ⟨_, rfl⟩
  have HMQ := hid hmq
  go_cut [10] from 37 to 53 (fun v wx => v = .bool mq ∧ wx = w4)
  case first =>
    by_cases hu : h.uniq.toList.isEmpty = true
    · have hu1 : h.uniq.toList = [] := List.isEmpty_iff.1 hu
      have hq : true = mq := by rw [← hmq, HMD.out, hu]; rfl
      subst hq
      go_wp2
      go_meet
      exact ⟨rfl, rfl⟩
    · have hu0 : h.uniq.toList.isEmpty = false := by simpa using hu
      have hu1 : ¬ h.uniq.toList = [] := fun e => hu (List.isEmpty_iff.2 e)
      by_cases hN : (0 : Int) < (fn1 : Int)
      · have hq : (fv1.toList == h.uniq.toList) = mq := by rw [← hmq, HMD.out, hu0, decide_eq_true hN]; simp
        clear HMD hu
        go_wp2
        go_meet
        exact ⟨by first | rfl | (rw [← hq]) | trace_state, rfl⟩
      · have hq : false = mq := by rw [← hmq, HMD.out, hu0, decide_eq_false hN]; rfl
        subst hq
        go_wp2
        go_meet
        exact ⟨rfl, rfl⟩
  case rest =>
    obtain ⟨rfl, hwx⟩ := hcut
    replace hwx := hwx.symm
    subst hwx
    clear HMD u7
    go_upto_region 17 with fail
    refine wp_region_held_drew (S := Kept (fun _ => False) w4) (by kernel_rfl) ((Kept.refl _ w4).drew) (fun hSd => ?_)
    refine Tks.out (l := [(0, some none), (1, some none), (2, some none), (3, some none)]) ?_
    iterate 4
     refine tkT (v := ?_) rfl (by kernel_rfl) (by kernel_rfl) (by kernel_rfl) (fun _ _ _ h => h) (Or.inl ⟨by kernel_rfl, fun W hSW => by go_simp; try with_reducible rfl⟩) (by assumption) ?_
     try simp only [List.getElem_toArray, List.getElem_cons_succ, List.getElem_cons_zero]
     try go_frame
    refine tkE ?_
    refine Tks.out (l := [(4, some (some (.bool false))), (5, some (some (.bool false)))]) ?_
    iterate 2
     refine tkV rfl (by kernel_rfl) (by kernel_rfl) (by kernel_rfl) (fun _ _ _ h => h) (Or.inl ⟨by kernel_rfl, fun W hSW => by go_simp; try with_reducible rfl⟩) (by assumption) ?_
     try simp only [List.getElem_toArray, List.getElem_cons_succ, List.getElem_cons_zero]
     try go_frame
    refine tkE ?_
    refine Tks.out (l := [(6, none), (7, none), (8, none)]) ?_
    iterate 3
     refine tkS rfl (by kernel_rfl) (by kernel_rfl) (by kernel_rfl) (fun _ _ _ h => h) (Or.inr ⟨by kernel_rfl, rfl⟩) (by assumption) ?_
     try simp only [List.getElem_toArray, List.getElem_cons_succ, List.getElem_cons_zero]
     try go_frame
    refine tkE ?_
    refine Tks.out (l := [(9, some (some (.bool false))), (10, some (some (.bool false)))]) ?_
    iterate 2
     refine tkV rfl (by kernel_rfl) (by kernel_rfl) (by kernel_rfl) (fun _ _ _ h => h) (Or.inl ⟨by kernel_rfl, fun W hSW => by go_simp; try with_reducible rfl⟩) (by assumption) ?_
     try simp only [List.getElem_toArray, List.getElem_cons_succ, List.getElem_cons_zero]
     try go_frame
    refine tkE ?_
    refine Tks.out (l := [(11, none), (12, none), (13, none), (14, none), (15, none), (16, none), (17, none)]) ?_
    iterate 7
     refine tkS rfl (by kernel_rfl) (by kernel_rfl) (by kernel_rfl) (fun _ _ _ h => h) (Or.inr ⟨by kernel_rfl, rfl⟩) (by assumption) ?_
     try simp only [List.getElem_toArray, List.getElem_cons_succ, List.getElem_cons_zero]
     try go_frame
    refine tkE ?_
    refine Tks.out (l := [(18, some (some (.bool false))), (19, some (some (.bool false)))]) ?_
    iterate 2
     refine tkV rfl (by kernel_rfl) (by kernel_rfl) (by kernel_rfl) (fun _ _ _ h => h) (Or.inl ⟨by kernel_rfl, fun W hSW => by go_simp; try with_reducible rfl⟩) (by assumption) ?_
     try simp only [List.getElem_toArray, List.getElem_cons_succ, List.getElem_cons_zero]
     try go_frame
    refine tkE ?_
    refine wpAnyH_take (i := 20) rfl (by kernel_rfl) (by kernel_rfl) (by kernel_rfl) (fun _ _ _ h => h) (Or.inr ⟨by kernel_rfl, rfl⟩) (by assumption) ?_
    try simp only [List.getElem_toArray, List.getElem_cons_succ, List.getElem_cons_zero]
    try go_frame
    refine Tks.out (l := [(21, some (some (.bool false))), (22, some (some (.bool false)))]) ?_
    iterate 2
     refine tkV rfl (by kernel_rfl) (by kernel_rfl) (by kernel_rfl) (fun _ _ _ h => h) (Or.inl ⟨by kernel_rfl, fun W hSW => by go_simp; try with_reducible rfl⟩) (by assumption) ?_
     try simp only [List.getElem_toArray, List.getElem_cons_succ, List.getElem_cons_zero]
     try go_frame
    refine tkE ?_
    refine wpAnyH_done (by kernel_rfl) ?_ _
    go_upto_region 21 with fail
    refine wp_region_held_drew (S := Kept (fun _ => False) w4) (by kernel_rfl) (((Kept.refl _ w4).drew).drew) (fun hSd => ?_)
    refine Tks.out (l := [(0, some none), (1, some none), (2, some none), (3, some none)]) ?_
    iterate 4
     refine tkT (v := ?_) rfl (by kernel_rfl) (by kernel_rfl) (by kernel_rfl) (fun _ _ _ h => h) (Or.inl ⟨by kernel_rfl, fun W hSW => by go_simp; try with_reducible rfl⟩) (by assumption) ?_
     try simp only [List.getElem_toArray, List.getElem_cons_succ, List.getElem_cons_zero]
     try go_frame
    refine tkE ?_
    refine Tks.out (l := [(4, some (some (.bool true))), (5, some (some (.bool true)))]) ?_
    iterate 2
     refine tkV rfl (by kernel_rfl) (by kernel_rfl) (by kernel_rfl) (fun _ _ _ h => h) (Or.inl ⟨by kernel_rfl, fun W hSW => by go_simp; try with_reducible rfl⟩) (by assumption) ?_
     try simp only [List.getElem_toArray, List.getElem_cons_succ, List.getElem_cons_zero]
     try go_frame
    refine tkE ?_
    refine Tks.out (l := [(6, some none), (7, some none)]) ?_
    iterate 2
     refine tkT (v := ?_) rfl (by kernel_rfl) (by kernel_rfl) (by kernel_rfl) (fun _ _ _ h => h) (Or.inl ⟨by kernel_rfl, fun W hSW => by go_simp; try with_reducible rfl⟩) (by assumption) ?_
     try simp only [List.getElem_toArray, List.getElem_cons_succ, List.getElem_cons_zero]
     try go_frame
    refine tkE ?_
    refine Tks.out (l := [(8, some (some (.bool true))), (9, some (some (.bool true))), (10, some (some (.bool true)))]) ?_
    iterate 3
     refine tkV rfl (by kernel_rfl) (by kernel_rfl) (by kernel_rfl) (fun _ _ _ h => h) (Or.inl ⟨by kernel_rfl, fun W hSW => by go_simp; try with_reducible rfl⟩) (by assumption) ?_
     try simp only [List.getElem_toArray, List.getElem_cons_succ, List.getElem_cons_zero]
     try go_frame
    refine tkE ?_
    refine Tks.out (l := [(11, some none), (12, some none), (13, some none), (14, some none), (15, some none), (16, some none)]) ?_
    iterate 6
     refine tkT (v := ?_) rfl (by kernel_rfl) (by kernel_rfl) (by kernel_rfl) (fun _ _ _ h => h) (Or.inl ⟨by kernel_rfl, fun W hSW => by go_simp; try with_reducible rfl⟩) (by assumption) ?_
     try simp only [List.getElem_toArray, List.getElem_cons_succ, List.getElem_cons_zero]
     try go_frame
    refine tkE ?_
    refine Tks.out (l := [(17, some (some (.bool true))), (18, some (some (.bool true))), (19, some (some (.bool true)))]) ?_
    iterate 3
     refine tkV rfl (by kernel_rfl) (by kernel_rfl) (by kernel_rfl) (fun _ _ _ h => h) (Or.inl ⟨by kernel_rfl, fun W hSW => by go_simp; try with_reducible rfl⟩) (by assumption) ?_
     try simp only [List.getElem_toArray, List.getElem_cons_succ, List.getElem_cons_zero]
     try go_frame
    refine tkE ?_
    refine Tks.out (l := [(20, some none), (21, some none), (22, some none), (23, some none), (24, some none), (25, some none)]) ?_
    iterate 6
     refine tkT (v := ?_) rfl (by kernel_rfl) (by kernel_rfl) (by kernel_rfl) (fun _ _ _ h => h) (Or.inl ⟨by kernel_rfl, fun W hSW => by go_simp; try with_reducible rfl⟩) (by assumption) ?_
     try simp only [List.getElem_toArray, List.getElem_cons_succ, List.getElem_cons_zero]
     try go_frame
    refine tkE ?_
    refine Tks.out (l := [(26, some (some (.bool false))), (27, some (some (.bool false))), (28, some (some (.bool false)))]) ?_
    iterate 3
     refine tkV rfl (by kernel_rfl) (by kernel_rfl) (by kernel_rfl) (fun _ _ _ h => h) (Or.inl ⟨by kernel_rfl, fun W hSW => by go_simp; try with_reducible rfl⟩) (by assumption) ?_
     try simp only [List.getElem_toArray, List.getElem_cons_succ, List.getElem_cons_zero]
     try go_frame
    refine tkE ?_
    refine wpAnyH_done (by kernel_rfl) ?_ _
    clear p0 p1 p2 p3 p4 p5 p6 p7 p8 p9 p10 p11 p12 p13 r0 r1 r2 r3 r4 r5 r10 r11 r12 r13 r14 r15 r16 r17 q0 q1 u10 v0 v1
    go_wp2
    go_ret
    have hk9 := ((K1.out.trans K14.out).drew).drew
    exact ⟨_, rfl, OwnE.nil _ _, HH.out.kept hk9 (fun h => h), hk9.mono (fun _ _ h => h.elim)⟩

set_option maxHeartbeats 8000000 in
set_option maxRecDepth 100000 in
theorem rTake_3end (b : Nat) (h : Hd) (hg : GoodD h) (dst src : List UInt8) (hdst : dst.length = 6) (hsrc : src.length = 6) (ty : Int) (x : ByteArray) (hsz : x.size ≤ 1000000) (w : World) (H : HdIn w b h) (dc : Dc) (l : List Tg) (hl : l.length ≤ 1000000) (hls : ∀ t ∈ l, t.value.size ≤ 1000000) (hge : getE ⟨dst, src, ty, x⟩ = (dc, l, true)) (hm : dst = h.mac) (hst : h.state = 3) (hcd : dc.code = 167) (hc : src = h.ac) (hss : (dc.session : Int) = h.session) :
    Calls Tryz.prog 18 #[.pointer (some ⟨b, 0, none⟩), frV ⟨dst, src, ty, x⟩] w fun e w' => ∃ u, e = .returned u ∧ OwnE w' w.heap.size u [] ∧ HdIn w' b { h with state := 0 } ∧ Kept (fun i => i = b) w w' := by
  obtain ⟨x0, x1, x2, x3, x4, x5, hx⟩ := six_cells hg.mac
  obtain ⟨y0, y1, y2, y3, y4, y5, hy⟩ := six_cells hg.ac
  obtain ⟨d0, d1, d2, d3, d4, d5, hd⟩ := six_cells hdst
  obtain ⟨s0, s1, s2, s3, s4, s5, hs⟩ := six_cells hsrc
  have hfv : frV ⟨dst, src, ty, x⟩ = .agg #[.int .u8 d0, .int .u8 d1, .int .u8 d2, .int .u8 d3, .int .u8 d4, .int .u8 d5, .int .u8 s0, .int .u8 s1, .int .u8 s2, .int .u8 s3, .int .u8 s4, .int .u8 s5, .int .i64 ty, .string x] := by unfold frV frList; simp only []; rw [hd, hs]; rfl
  have HRd := hid (fun W => rRead_any ⟨dst, src, ty, x⟩ hdst hsrc hsz W)
  rw [hfv] at HRd ⊢
  have hE := mac_eq dst h.mac hdst hg.mac
  rw [hd, hx] at hE
  have hE3 := mac_eq src h.ac hsrc hg.ac
  rw [hs, hy] at hE3
  obtain ⟨w1, hw1⟩ : ∃ w1, w1 = w.alloc (.cells #[.int .u8 d0, .int .u8 d1, .int .u8 d2, .int .u8 d3, .int .u8 d4, .int .u8 d5, .int .u8 s0, .int .u8 s1, .int .u8 s2, .int .u8 s3, .int .u8 s4, .int .u8 s5, .int .i64 ty, .string x] 55) := ⟨_, rfl⟩
  have Hw1 := hid hw1
  have K1 : Hid (Kept (fun _ => False) w w1) := by rw [hw1]; exact (Kept.refl _ w).alloc _
  obtain ⟨fb, hfb⟩ : ∃ fb, fb = w.heap.size := ⟨_, rfl⟩
  have O1 : Hid (Own14 w1 fb #[.int .u8 d0, .int .u8 d1, .int .u8 d2, .int .u8 d3, .int .u8 d4, .int .u8 d5, .int .u8 s0, .int .u8 s1, .int .u8 s2, .int .u8 s3, .int .u8 s4, .int .u8 s5, .int .i64 ty, .string x]) := by rw [hw1, hfb]; exact own14_new w _
  have HFB := hid hfb
  have HH := hid H
  have HG := hid hg
  have HX := hid (And.intro hx hy)
  have HC := hid (fun W (hk : Kept (fun _ => False) w1 W) => (H.kept (K1.out.trans hk) (fun h => h)).cells hx hy)
  obtain ⟨p0, p1, p2, p3, p4, p5, p6, p7, p8, p9, p10, p11, p12, p13⟩ := cells14 (C := fun W => Kept (fun _ => False) w1 W) (X := fb) (fun W hk => O1.out.kept (hk))
  rw [hge] at HRd
  simp only [] at HRd
  rw [decide_eq_true hm] at hE
  have HLl := hid hl
  have HLs : Hid (∀ t ∈ l, t.value.size ≤ 140737488351232) := fun t ht => Nat.le_trans (hls t ht) (by decide)
  have st1 : (h.state == 1) = false := by simp; omega
  have st2 : (h.state == 2) = false := by simp; omega
  have st3 : (h.state == 3) = true := by simp [hst]
  have cd1 : ((dc.code : Int) == 167) = true := by simp; omega
  have ss1 : ((dc.session : Int) == h.session) = true := by simpa using hss
  rw [decide_eq_true hc] at hE3
  clear hst hcd hc hss
  clear hl hls hge hm
  clear hfv hw1 hd hs H hx hy hdst hsrc hg hfb
  go_enter Tryz.func18, Tryz.ntmps18
  go_upto_region 1 with fail
  rw [← Hw1.out, ← HFB.out]
  have e0 := p0 w1 (Kept.refl _ w1)
  have e1 := p1 w1 (Kept.refl _ w1)
  have e2 := p2 w1 (Kept.refl _ w1)
  have e3 := p3 w1 (Kept.refl _ w1)
  have e4 := p4 w1 (Kept.refl _ w1)
  have e5 := p5 w1 (Kept.refl _ w1)
  have e6 := p6 w1 (Kept.refl _ w1)
  have e7 := p7 w1 (Kept.refl _ w1)
  have e8 := p8 w1 (Kept.refl _ w1)
  have e9 := p9 w1 (Kept.refl _ w1)
  have e10 := p10 w1 (Kept.refl _ w1)
  have e11 := p11 w1 (Kept.refl _ w1)
  have e12 := p12 w1 (Kept.refl _ w1)
  have e13 := p13 w1 (Kept.refl _ w1)
  go_wp2_with fail
  refine (HRd.out _).mono ?_
  rintro e w2 ⟨c, s, dd, p, n, cap, rfl, hgood, hk2⟩
  have K2 := hid hk2
  have HGd := hid hgood
  clear hk2 hgood e0 e1 e2 e3 e4 e5 e6 e7 e8 e9 e10 e11 e12 e13
  go_upto_region 2 with fail
  have KB : Hid (Kept (fun _ => False) w1 (w2.alloc (.cells #[.int .i64 c, .int .i64 s, .string dd] 82))) := K2.out.alloc _
  have B3 : Hid ((w2.alloc (.cells #[.int .i64 c, .int .i64 s, .string dd] 82)).heap[w2.heap.size]? = some (.cells #[.int .i64 c, .int .i64 s, .string dd] 82 (0, 0))) := heap_alloc_new w2 _
  have K23 : Hid (Kept (fun _ => False) w2 (w2.alloc (.cells #[.int .i64 c, .int .i64 s, .string dd] 82))) := (Kept.refl _ w2).alloc _
  have HDB := hid (Nat.le_trans K1.out.size K2.out.size)
  generalize w2.alloc (.cells #[.int .i64 c, .int .i64 s, .string dd] 82) = w3 at *
  generalize w2.heap.size = db at *
  clear p0 p1 p2 p3 p4 p5 p6 p7 p8 p9 p10 p11 p12 p13
  obtain ⟨p0, p1, p2, p3, p4, p5, p6, p7, p8, p9, p10, p11, p12, p13⟩ := cells14 (C := fun W => Kept (fun _ => False) w3 W) (X := fb) (fun W hk => O1.out.kept (KB.out.trans hk))
  have r0 := fun W (hk : Kept (fun _ => False) w3 W) => (HC.out W (KB.out.trans hk)).c0
  have r1 := fun W (hk : Kept (fun _ => False) w3 W) => (HC.out W (KB.out.trans hk)).c1
  have r2 := fun W (hk : Kept (fun _ => False) w3 W) => (HC.out W (KB.out.trans hk)).c2
  have r3 := fun W (hk : Kept (fun _ => False) w3 W) => (HC.out W (KB.out.trans hk)).c3
  have r4 := fun W (hk : Kept (fun _ => False) w3 W) => (HC.out W (KB.out.trans hk)).c4
  have r5 := fun W (hk : Kept (fun _ => False) w3 W) => (HC.out W (KB.out.trans hk)).c5
  have r12 := fun W (hk : Kept (fun _ => False) w3 W) => (HC.out W (KB.out.trans hk)).c12
  have r13 := fun W (hk : Kept (fun _ => False) w3 W) => (HC.out W (KB.out.trans hk)).c13
  have r14 := fun W (hk : Kept (fun _ => False) w3 W) => (HC.out W (KB.out.trans hk)).c14
  have r15 := fun W (hk : Kept (fun _ => False) w3 W) => (HC.out W (KB.out.trans hk)).c15
  have r16 := fun W (hk : Kept (fun _ => False) w3 W) => (HC.out W (KB.out.trans hk)).c16
  have r17 := fun W (hk : Kept (fun _ => False) w3 W) => (HC.out W (KB.out.trans hk)).c17
  have r10 := fun W (hk : Kept (fun _ => False) w3 W) => (HC.out W (KB.out.trans hk)).c10
  have r11 := fun W (hk : Kept (fun _ => False) w3 W) => (HC.out W (KB.out.trans hk)).c11
  refine wp_region_held_drew (S := Kept (fun _ => False) w3) (by kernel_rfl) ((Kept.refl _ w3).drew) (fun hSd => ?_)
  refine wpAnyH_take (i := 0) (v := ?_) rfl (by kernel_rfl) (by kernel_rfl) (by kernel_rfl) (fun _ _ _ h => h) (Or.inl ⟨by kernel_rfl, fun W hSW => by go_simp; try with_reducible rfl⟩) (by assumption) ?_
  try simp only [List.getElem_toArray, List.getElem_cons_zero]
  try go_frame
  refine Tks.out (l := [(1, some (some (.bool false))), (2, some (some (.bool false)))]) ?_
  iterate 2
   refine tkV rfl (by kernel_rfl) (by kernel_rfl) (by kernel_rfl) (fun _ _ _ h => h) (Or.inl ⟨by kernel_rfl, fun W hSW => by go_simp; try with_reducible rfl⟩) (by assumption) ?_
   try simp only [List.getElem_toArray, List.getElem_cons_succ, List.getElem_cons_zero]
   try go_frame
  refine tkE ?_
  refine Tks.out (l := [(3, some none), (4, some none), (5, some none), (6, some none), (7, some none), (8, some none)]) ?_
  iterate 6
   refine tkT (v := ?_) rfl (by kernel_rfl) (by kernel_rfl) (by kernel_rfl) (fun _ _ _ h => h) (Or.inl ⟨by kernel_rfl, fun W hSW => by go_simp; try with_reducible rfl⟩) (by assumption) ?_
   try simp only [List.getElem_toArray, List.getElem_cons_succ, List.getElem_cons_zero]
   try go_frame
  refine tkE ?_
  refine Tks.out (l := [(9, some (some (.bool false))), (10, some (some (.bool false)))]) ?_
  iterate 2
   refine tkV rfl (by kernel_rfl) (by kernel_rfl) (by kernel_rfl) (fun _ _ _ h => h) (Or.inl ⟨by kernel_rfl, fun W hSW => by go_simp; try with_reducible rfl⟩) (by assumption) ?_
   try simp only [List.getElem_toArray, List.getElem_cons_succ, List.getElem_cons_zero]
   try go_frame
  refine tkE ?_
  refine wpAnyH_done (by kernel_rfl) ?_ _
  obtain ⟨hc9, hs9, hn9, hown⟩ := HGd.out trivial
  subst hc9
  subst hs9
  subst hn9
  have HFd := hid (fun W (hk : Kept (fun _ => False) w3 W) => refFind_any _ l 259 W ((hown.tags.kept0 K23.out).kept0 hk) HLl.out HLs.out)
  have HTg := hid (fun W (hk : Kept (fun _ => False) w3 W) => (hown.tags.kept0 K23.out).kept0 hk)
  clear hown HGd
  generalize hfv1 : (findF l 259).1 = fv1 at *
  generalize hfn1 : (findF l 259).2 = fn1 at *
  have HMD : Hid (mineD h l = (h.uniq.toList.isEmpty || (decide (0 < (fn1 : Int)) && (fv1.toList == h.uniq.toList)))) := by
    show mineD h l = _
    unfold mineD
    rw [hfv1, hfn1]
    simp
  clear hfv1 hfn1
  obtain ⟨wd, hwd⟩ : ∃ wd, wd = w3.drew := ⟨_, rfl⟩
  have KD : Hid (Kept (fun _ => False) w3 wd) := by rw [hwd]; exact (Kept.refl _ w3).drew
  rw [← hwd]
  clear hwd
  go_wp2_with fail
  refine (HFd.out _ KD.out).mono ?_
  rintro e w4 ⟨rfl, hk4⟩
  have K34 := hid (KD.out.trans hk4)
  have K14 := hid (KB.out.trans (KD.out.trans hk4))
  clear hk4 KD HFd
  go_upto_region 5 with fail
  clear p0 p1 p2 p3 p4 p5 p6 p7 p8 p9 p10 p11 p12 p13 r0 r1 r2 r3 r4 r5 r10 r11 r12 r13 r14 r15 r16 r17
  obtain ⟨p0, p1, p2, p3, p4, p5, p6, p7, p8, p9, p10, p11, p12, p13⟩ := cells14 (C := fun W => Kept (fun _ => False) w4 W) (X := fb) (fun W hk => O1.out.kept (K14.out.trans hk))
  have r0 := fun W (hk : Kept (fun _ => False) w4 W) => (HC.out W (K14.out.trans hk)).c0
  have r1 := fun W (hk : Kept (fun _ => False) w4 W) => (HC.out W (K14.out.trans hk)).c1
  have r2 := fun W (hk : Kept (fun _ => False) w4 W) => (HC.out W (K14.out.trans hk)).c2
  have r3 := fun W (hk : Kept (fun _ => False) w4 W) => (HC.out W (K14.out.trans hk)).c3
  have r4 := fun W (hk : Kept (fun _ => False) w4 W) => (HC.out W (K14.out.trans hk)).c4
  have r5 := fun W (hk : Kept (fun _ => False) w4 W) => (HC.out W (K14.out.trans hk)).c5
  have r12 := fun W (hk : Kept (fun _ => False) w4 W) => (HC.out W (K14.out.trans hk)).c12
  have r13 := fun W (hk : Kept (fun _ => False) w4 W) => (HC.out W (K14.out.trans hk)).c13
  have r14 := fun W (hk : Kept (fun _ => False) w4 W) => (HC.out W (K14.out.trans hk)).c14
  have r15 := fun W (hk : Kept (fun _ => False) w4 W) => (HC.out W (K14.out.trans hk)).c15
  have r16 := fun W (hk : Kept (fun _ => False) w4 W) => (HC.out W (K14.out.trans hk)).c16
  have r17 := fun W (hk : Kept (fun _ => False) w4 W) => (HC.out W (K14.out.trans hk)).c17
  have r10 := fun W (hk : Kept (fun _ => False) w4 W) => (HC.out W (K14.out.trans hk)).c10
  have r11 := fun W (hk : Kept (fun _ => False) w4 W) => (HC.out W (K14.out.trans hk)).c11
  have hdl := (Array.getElem?_eq_some_iff.1 B3.out).1
  have q0 : ∀ W, Kept (fun _ => False) w4 W → W.cell? ⟨db, 0, none⟩ = some (.int .i64 (dc.code : Int)) := fun W hk => by simp [World.cell?, ((K34.out.trans hk).block db hdl (fun h => h)).trans B3.out]
  have q1 : ∀ W, Kept (fun _ => False) w4 W → W.cell? ⟨db, 1, none⟩ = some (.int .i64 (dc.session : Int)) := fun W hk => by simp [World.cell?, ((K34.out.trans hk).block db hdl (fun h => h)).trans B3.out]
  have u7 := (HC.out w4 K14.out).c7
  have u10 := (HC.out w4 K14.out).c10
  have v0 := q0 w4 (Kept.refl _ w4)
  have v1 := q1 w4 (Kept.refl _ w4)
  obtain ⟨mq, hmq⟩ : ∃ mq, mineD h l = mq := ⟨_, rfl⟩
  have HMQ := hid hmq
  go_cut [10] from 37 to 53 (fun v wx => v = .bool mq ∧ wx = w4)
  case first =>
    by_cases hu : h.uniq.toList.isEmpty = true
    · have hu1 : h.uniq.toList = [] := List.isEmpty_iff.1 hu
      have hq : true = mq := by rw [← hmq, HMD.out, hu]; rfl
      subst hq
      go_wp2
      go_meet
      exact ⟨rfl, rfl⟩
    · have hu0 : h.uniq.toList.isEmpty = false := by simpa using hu
      have hu1 : ¬ h.uniq.toList = [] := fun e => hu (List.isEmpty_iff.2 e)
      by_cases hN : (0 : Int) < (fn1 : Int)
      · have hq : (fv1.toList == h.uniq.toList) = mq := by rw [← hmq, HMD.out, hu0, decide_eq_true hN]; simp
        clear HMD hu
        go_wp2
        go_meet
        exact ⟨by first | rfl | (rw [← hq]) | trace_state, rfl⟩
      · have hq : false = mq := by rw [← hmq, HMD.out, hu0, decide_eq_false hN]; rfl
        subst hq
        go_wp2
        go_meet
        exact ⟨rfl, rfl⟩
  case rest =>
    obtain ⟨rfl, hwx⟩ := hcut
    replace hwx := hwx.symm
    subst hwx
    clear HMD u7
    go_upto_region 17 with fail
    refine wp_region_held_drew (S := Kept (fun _ => False) w4) (by kernel_rfl) ((Kept.refl _ w4).drew) (fun hSd => ?_)
    refine Tks.out (l := [(0, some none), (1, some none), (2, some none), (3, some none)]) ?_
    iterate 4
     refine tkT (v := ?_) rfl (by kernel_rfl) (by kernel_rfl) (by kernel_rfl) (fun _ _ _ h => h) (Or.inl ⟨by kernel_rfl, fun W hSW => by go_simp; try with_reducible rfl⟩) (by assumption) ?_
     try simp only [List.getElem_toArray, List.getElem_cons_succ, List.getElem_cons_zero]
     try go_frame
    refine tkE ?_
    refine Tks.out (l := [(4, some (some (.bool false))), (5, some (some (.bool false)))]) ?_
    iterate 2
     refine tkV rfl (by kernel_rfl) (by kernel_rfl) (by kernel_rfl) (fun _ _ _ h => h) (Or.inl ⟨by kernel_rfl, fun W hSW => by go_simp; try with_reducible rfl⟩) (by assumption) ?_
     try simp only [List.getElem_toArray, List.getElem_cons_succ, List.getElem_cons_zero]
     try go_frame
    refine tkE ?_
    refine Tks.out (l := [(6, none), (7, none), (8, none)]) ?_
    iterate 3
     refine tkS rfl (by kernel_rfl) (by kernel_rfl) (by kernel_rfl) (fun _ _ _ h => h) (Or.inr ⟨by kernel_rfl, rfl⟩) (by assumption) ?_
     try simp only [List.getElem_toArray, List.getElem_cons_succ, List.getElem_cons_zero]
     try go_frame
    refine tkE ?_
    refine Tks.out (l := [(9, some (some (.bool false))), (10, some (some (.bool false)))]) ?_
    iterate 2
     refine tkV rfl (by kernel_rfl) (by kernel_rfl) (by kernel_rfl) (fun _ _ _ h => h) (Or.inl ⟨by kernel_rfl, fun W hSW => by go_simp; try with_reducible rfl⟩) (by assumption) ?_
     try simp only [List.getElem_toArray, List.getElem_cons_succ, List.getElem_cons_zero]
     try go_frame
    refine tkE ?_
    refine Tks.out (l := [(11, none), (12, none), (13, none), (14, none), (15, none), (16, none), (17, none)]) ?_
    iterate 7
     refine tkS rfl (by kernel_rfl) (by kernel_rfl) (by kernel_rfl) (fun _ _ _ h => h) (Or.inr ⟨by kernel_rfl, rfl⟩) (by assumption) ?_
     try simp only [List.getElem_toArray, List.getElem_cons_succ, List.getElem_cons_zero]
     try go_frame
    refine tkE ?_
    refine Tks.out (l := [(18, some (some (.bool false))), (19, some (some (.bool false)))]) ?_
    iterate 2
     refine tkV rfl (by kernel_rfl) (by kernel_rfl) (by kernel_rfl) (fun _ _ _ h => h) (Or.inl ⟨by kernel_rfl, fun W hSW => by go_simp; try with_reducible rfl⟩) (by assumption) ?_
     try simp only [List.getElem_toArray, List.getElem_cons_succ, List.getElem_cons_zero]
     try go_frame
    refine tkE ?_
    refine wpAnyH_take (i := 20) rfl (by kernel_rfl) (by kernel_rfl) (by kernel_rfl) (fun _ _ _ h => h) (Or.inr ⟨by kernel_rfl, rfl⟩) (by assumption) ?_
    try simp only [List.getElem_toArray, List.getElem_cons_succ, List.getElem_cons_zero]
    try go_frame
    refine Tks.out (l := [(21, some (some (.bool false))), (22, some (some (.bool false)))]) ?_
    iterate 2
     refine tkV rfl (by kernel_rfl) (by kernel_rfl) (by kernel_rfl) (fun _ _ _ h => h) (Or.inl ⟨by kernel_rfl, fun W hSW => by go_simp; try with_reducible rfl⟩) (by assumption) ?_
     try simp only [List.getElem_toArray, List.getElem_cons_succ, List.getElem_cons_zero]
     try go_frame
    refine tkE ?_
    refine wpAnyH_done (by kernel_rfl) ?_ _
    go_upto_region 21 with fail
    refine wp_region_held_drew (S := Kept (fun _ => False) w4) (by kernel_rfl) (((Kept.refl _ w4).drew).drew) (fun hSd => ?_)
    refine Tks.out (l := [(0, some none), (1, some none), (2, some none), (3, some none)]) ?_
    iterate 4
     refine tkT (v := ?_) rfl (by kernel_rfl) (by kernel_rfl) (by kernel_rfl) (fun _ _ _ h => h) (Or.inl ⟨by kernel_rfl, fun W hSW => by go_simp; try with_reducible rfl⟩) (by assumption) ?_
     try simp only [List.getElem_toArray, List.getElem_cons_succ, List.getElem_cons_zero]
     try go_frame
    refine tkE ?_
    refine Tks.out (l := [(4, some (some (.bool true))), (5, some (some (.bool true)))]) ?_
    iterate 2
     refine tkV rfl (by kernel_rfl) (by kernel_rfl) (by kernel_rfl) (fun _ _ _ h => h) (Or.inl ⟨by kernel_rfl, fun W hSW => by go_simp; try with_reducible rfl⟩) (by assumption) ?_
     try simp only [List.getElem_toArray, List.getElem_cons_succ, List.getElem_cons_zero]
     try go_frame
    refine tkE ?_
    refine Tks.out (l := [(6, some none), (7, some none)]) ?_
    iterate 2
     refine tkT (v := ?_) rfl (by kernel_rfl) (by kernel_rfl) (by kernel_rfl) (fun _ _ _ h => h) (Or.inl ⟨by kernel_rfl, fun W hSW => by go_simp; try with_reducible rfl⟩) (by assumption) ?_
     try simp only [List.getElem_toArray, List.getElem_cons_succ, List.getElem_cons_zero]
     try go_frame
    refine tkE ?_
    refine Tks.out (l := [(8, some (some (.bool true))), (9, some (some (.bool true))), (10, some (some (.bool true)))]) ?_
    iterate 3
     refine tkV rfl (by kernel_rfl) (by kernel_rfl) (by kernel_rfl) (fun _ _ _ h => h) (Or.inl ⟨by kernel_rfl, fun W hSW => by go_simp; try with_reducible rfl⟩) (by assumption) ?_
     try simp only [List.getElem_toArray, List.getElem_cons_succ, List.getElem_cons_zero]
     try go_frame
    refine tkE ?_
    refine Tks.out (l := [(11, some none), (12, some none), (13, some none), (14, some none), (15, some none), (16, some none)]) ?_
    iterate 6
     refine tkT (v := ?_) rfl (by kernel_rfl) (by kernel_rfl) (by kernel_rfl) (fun _ _ _ h => h) (Or.inl ⟨by kernel_rfl, fun W hSW => by go_simp; try with_reducible rfl⟩) (by assumption) ?_
     try simp only [List.getElem_toArray, List.getElem_cons_succ, List.getElem_cons_zero]
     try go_frame
    refine tkE ?_
    refine Tks.out (l := [(17, some (some (.bool true))), (18, some (some (.bool true))), (19, some (some (.bool true)))]) ?_
    iterate 3
     refine tkV rfl (by kernel_rfl) (by kernel_rfl) (by kernel_rfl) (fun _ _ _ h => h) (Or.inl ⟨by kernel_rfl, fun W hSW => by go_simp; try with_reducible rfl⟩) (by assumption) ?_
     try simp only [List.getElem_toArray, List.getElem_cons_succ, List.getElem_cons_zero]
     try go_frame
    refine tkE ?_
    refine Tks.out (l := [(20, some none), (21, some none), (22, some none), (23, some none), (24, some none), (25, some none)]) ?_
    iterate 6
     refine tkT (v := ?_) rfl (by kernel_rfl) (by kernel_rfl) (by kernel_rfl) (fun _ _ _ h => h) (Or.inl ⟨by kernel_rfl, fun W hSW => by go_simp; try with_reducible rfl⟩) (by assumption) ?_
     try simp only [List.getElem_toArray, List.getElem_cons_succ, List.getElem_cons_zero]
     try go_frame
    refine tkE ?_
    refine Tks.out (l := [(26, some (some (.bool true))), (27, some (some (.bool true))), (28, some (some (.bool true)))]) ?_
    iterate 3
     refine tkV rfl (by kernel_rfl) (by kernel_rfl) (by kernel_rfl) (fun _ _ _ h => h) (Or.inl ⟨by kernel_rfl, fun W hSW => by go_simp; try with_reducible rfl⟩) (by assumption) ?_
     try simp only [List.getElem_toArray, List.getElem_cons_succ, List.getElem_cons_zero]
     try go_frame
    refine tkE ?_
    refine wpAnyH_done (by kernel_rfl) ?_ _
    have hk9 := hid (((K1.out.trans K14.out).drew).drew)
    have H9 := hid (HH.out.kept hk9.out (fun h => h))
    have a10 := r10 w4.drew.drew ((Kept.refl _ w4).drew.drew)
    have b10 := H9.out.fz 10
    have H10 := hid (H9.out.set (h' := { h with state := 0 }) 10 (.int .i64 0) (hd_state HG.out.mac 0))
    clear p0 p1 p2 p3 p4 p5 p6 p7 p8 p9 p10 p11 p12 p13 r0 r1 r2 r3 r4 r5 r10 r11 r12 r13 r14 r15 r16 r17 q0 q1 u10 v0 v1
    go_wp2
    go_ret
    exact ⟨_, rfl, OwnE.nil _ _, H10.out, (hk9.out.mono (T := fun i => i = b) (fun _ _ h => h.elim)).setCell (p := ⟨b, 10, none⟩) (Or.inr rfl) _⟩

end Go.Proofs.YtffnppfoofifgaaGreat
