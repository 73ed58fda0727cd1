/- The contract of the document's host: Take, further ways. (Written by gen_hrtake.py.) -/
import Derived.Test.YtffnppfoofifgaaGreatTk
import Derived.Test.YtffnppfoofifgaaGreatHrTake7
namespace Go.Proofs.YtffnppfoofifgaaGreat
open Go.RowKit

set_option maxHeartbeats 8000000 in
set_option maxRecDepth 100000 in
theorem rTake_1none (b : Nat) (h : Hd) (hg : GoodD h) (dst src : List UInt8) (hdst : dst.length = 6) (hsrc : src.length = 6) (ty : Int) (x : ByteArray) (hsz : x.size ≤ 1000000) (w : World) (H : HdIn w b h) (dc : Dc) (l : List Tg) (hl : l.length ≤ 1000000) (hls : ∀ t ∈ l, t.value.size ≤ 1000000) (hge : getE ⟨dst, src, ty, x⟩ = (dc, l, true)) (hm : dst = h.mac) (hmi : mineD h l = true) (hst : h.state = 1) (hcd : dc.code = 7) (hss : dc.session = 0) (hoff : offB h.service l = true) (ck : ByteArray) (cn : Nat) (hck : (findF l 260).1 = ck) (hcn : (findF l 260).2 = cn) (hcs : ck.size ≤ 1000000) (hN : ¬ 0 < cn) :
    Calls Tryz.prog 18 #[.pointer (some ⟨b, 0, none⟩), frV ⟨dst, src, ty, x⟩] w fun e w' => ∃ u, e = .returned u ∧ OwnE w' w.heap.size u (askD { h with state := 2, ac := src, cookie := ck, has := false, tries := 0 }) ∧ HdIn w' b { h with state := 2, ac := src, cookie := ck, has := false, tries := 0, ticks := 0 } ∧ Kept (fun i => i = b) w w' := by
  obtain ⟨x0, x1, x2, x3, x4, x5, hx⟩ := six_cells hg.mac
  obtain ⟨y0, y1, y2, y3, y4, y5, hy⟩ := six_cells hg.ac
  obtain ⟨d0, d1, d2, d3, d4, d5, hd⟩ := six_cells hdst
  obtain ⟨s0, s1, s2, s3, s4, s5, hs⟩ := six_cells hsrc
  have hfv : frV ⟨dst, src, ty, x⟩ = .agg #[.int .u8 d0, .int .u8 d1, .int .u8 d2, .int .u8 d3, .int .u8 d4, .int .u8 d5, .int .u8 s0, .int .u8 s1, .int .u8 s2, .int .u8 s3, .int .u8 s4, .int .u8 s5, .int .i64 ty, .string x] := by unfold frV frList; simp only []; rw [hd, hs]; rfl
  have HRd := hid (fun W => rRead_any ⟨dst, src, ty, x⟩ hdst hsrc hsz W)
  rw [hfv] at HRd ⊢
  have hE := mac_eq dst h.mac hdst hg.mac
  rw [hd, hx] at hE
  have hE3 := mac_eq src h.ac hsrc hg.ac
  rw [hs, hy] at hE3
  obtain ⟨w1, hw1⟩ : ∃ w1, w1 = w.alloc (.cells #[.int .u8 d0, .int .u8 d1, .int .u8 d2, .int .u8 d3, .int .u8 d4, .int .u8 d5, .int .u8 s0, .int .u8 s1, .int .u8 s2, .int .u8 s3, .int .u8 s4, .int .u8 s5, .int .i64 ty, .string x] 55) := ⟨_, rfl⟩
  have Hw1 := hid hw1
  have K1 : Hid (Kept (fun _ => False) w w1) := by rw [hw1]; exact (Kept.refl _ w).alloc _
  obtain ⟨fb, hfb⟩ : ∃ fb, fb = w.heap.size := ⟨_, rfl⟩
  have O1 : Hid (Own14 w1 fb #[.int .u8 d0, .int .u8 d1, .int .u8 d2, .int .u8 d3, .int .u8 d4, .int .u8 d5, .int .u8 s0, .int .u8 s1, .int .u8 s2, .int .u8 s3, .int .u8 s4, .int .u8 s5, .int .i64 ty, .string x]) := by rw [hw1, hfb]; exact own14_new w _
  have HFB := hid hfb
  have HH := hid H
  have HG := hid hg
  have HX := hid (And.intro hx hy)
  have HC := hid (fun W (hk : Kept (fun _ => False) w1 W) => (H.kept (K1.out.trans hk) (fun h => h)).cells hx hy)
  obtain ⟨p0, p1, p2, p3, p4, p5, p6, p7, p8, p9, p10, p11, p12, p13⟩ := cells14 (C := fun W => Kept (fun _ => False) w1 W) (X := fb) (fun W hk => O1.out.kept (hk))
  rw [hge] at HRd
  simp only [] at HRd
  rw [decide_eq_true hm] at hE
  have HLl := hid hl
  have HLs : Hid (∀ t ∈ l, t.value.size ≤ 140737488351232) := fun t ht => Nat.le_trans (hls t ht) (by decide)
  have st1 : (h.state == 1) = true := by simp [hst]
  have st2 : (h.state == 2) = false := by simp; omega
  have st3 : (h.state == 3) = false := by simp; omega
  have cd1 : ((dc.code : Int) == 7) = true := by simp; omega
  have ss1 : ((dc.session : Int) == 0) = true := by simp; omega
  clear hE3 hst hcd hss
  have HOFF := hid hoff
  have HCKe := hid hck
  have HCNe := hid hcn
  have HCK := hid hcs
  have HSR := hid hs
  have HSL := hid hsrc
  clear hoff hck hcn hcs
  clear hl hls hge hm
  clear hfv hw1 hd hs H hx hy hdst hsrc hg hfb
  go_enter Tryz.func18, Tryz.ntmps18
  go_upto_region 1 with fail
  rw [← Hw1.out, ← HFB.out]
  have e0 := p0 w1 (Kept.refl _ w1)
  have e1 := p1 w1 (Kept.refl _ w1)
  have e2 := p2 w1 (Kept.refl _ w1)
  have e3 := p3 w1 (Kept.refl _ w1)
  have e4 := p4 w1 (Kept.refl _ w1)
  have e5 := p5 w1 (Kept.refl _ w1)
  have e6 := p6 w1 (Kept.refl _ w1)
  have e7 := p7 w1 (Kept.refl _ w1)
  have e8 := p8 w1 (Kept.refl _ w1)
  have e9 := p9 w1 (Kept.refl _ w1)
  have e10 := p10 w1 (Kept.refl _ w1)
  have e11 := p11 w1 (Kept.refl _ w1)
  have e12 := p12 w1 (Kept.refl _ w1)
  have e13 := p13 w1 (Kept.refl _ w1)
  go_wp2_with fail
  refine (HRd.out _).mono ?_
  rintro e w2 ⟨c, s, dd, p, n, cap, rfl, hgood, hk2⟩
  have K2 := hid hk2
  have HGd := hid hgood
  clear hk2 hgood e0 e1 e2 e3 e4 e5 e6 e7 e8 e9 e10 e11 e12 e13
  go_upto_region 2 with fail
  have KB : Hid (Kept (fun _ => False) w1 (w2.alloc (.cells #[.int .i64 c, .int .i64 s, .string dd] 82))) := K2.out.alloc _
  have B3 : Hid ((w2.alloc (.cells #[.int .i64 c, .int .i64 s, .string dd] 82)).heap[w2.heap.size]? = some (.cells #[.int .i64 c, .int .i64 s, .string dd] 82 (0, 0))) := heap_alloc_new w2 _
  have K23 : Hid (Kept (fun _ => False) w2 (w2.alloc (.cells #[.int .i64 c, .int .i64 s, .string dd] 82))) := (Kept.refl _ w2).alloc _
  have HDB := hid (Nat.le_trans K1.out.size K2.out.size)
  generalize w2.alloc (.cells #[.int .i64 c, .int .i64 s, .string dd] 82) = w3 at *
  generalize w2.heap.size = db at *
  clear p0 p1 p2 p3 p4 p5 p6 p7 p8 p9 p10 p11 p12 p13
  obtain ⟨p0, p1, p2, p3, p4, p5, p6, p7, p8, p9, p10, p11, p12, p13⟩ := cells14 (C := fun W => Kept (fun _ => False) w3 W) (X := fb) (fun W hk => O1.out.kept (KB.out.trans hk))
  have r0 := fun W (hk : Kept (fun _ => False) w3 W) => (HC.out W (KB.out.trans hk)).c0
  have r1 := fun W (hk : Kept (fun _ => False) w3 W) => (HC.out W (KB.out.trans hk)).c1
  have r2 := fun W (hk : Kept (fun _ => False) w3 W) => (HC.out W (KB.out.trans hk)).c2
  have r3 := fun W (hk : Kept (fun _ => False) w3 W) => (HC.out W (KB.out.trans hk)).c3
  have r4 := fun W (hk : Kept (fun _ => False) w3 W) => (HC.out W (KB.out.trans hk)).c4
  have r5 := fun W (hk : Kept (fun _ => False) w3 W) => (HC.out W (KB.out.trans hk)).c5
  have r12 := fun W (hk : Kept (fun _ => False) w3 W) => (HC.out W (KB.out.trans hk)).c12
  have r13 := fun W (hk : Kept (fun _ => False) w3 W) => (HC.out W (KB.out.trans hk)).c13
  have r14 := fun W (hk : Kept (fun _ => False) w3 W) => (HC.out W (KB.out.trans hk)).c14
  have r15 := fun W (hk : Kept (fun _ => False) w3 W) => (HC.out W (KB.out.trans hk)).c15
  have r16 := fun W (hk : Kept (fun _ => False) w3 W) => (HC.out W (KB.out.trans hk)).c16
  have r17 := fun W (hk : Kept (fun _ => False) w3 W) => (HC.out W (KB.out.trans hk)).c17
  have r10 := fun W (hk : Kept (fun _ => False) w3 W) => (HC.out W (KB.out.trans hk)).c10
  have r11 := fun W (hk : Kept (fun _ => False) w3 W) => (HC.out W (KB.out.trans hk)).c11
  refine wp_region_held_drew (S := Kept (fun _ => False) w3) (by kernel_rfl) ((Kept.refl _ w3).drew) (fun hSd => ?_)
  refine wpAnyH_take (i := 0) (v := ?_) rfl (by kernel_rfl) (by kernel_rfl) (by kernel_rfl) (fun _ _ _ h => h) (Or.inl ⟨by kernel_rfl, fun W hSW => by go_simp; try with_reducible rfl⟩) (by assumption) ?_
  try simp only [List.getElem_toArray, List.getElem_cons_zero]
  try go_frame
  refine Tks.out (l := [(1, some (some (.bool false))), (2, some (some (.bool false)))]) ?_
  iterate 2
   refine tkV rfl (by kernel_rfl) (by kernel_rfl) (by kernel_rfl) (fun _ _ _ h => h) (Or.inl ⟨by kernel_rfl, fun W hSW => by go_simp; try with_reducible rfl⟩) (by assumption) ?_
   try simp only [List.getElem_toArray, List.getElem_cons_succ, List.getElem_cons_zero]
   try go_frame
  refine tkE ?_
  refine Tks.out (l := [(3, some none), (4, some none), (5, some none), (6, some none), (7, some none), (8, some none)]) ?_
  iterate 6
   refine tkT (v := ?_) rfl (by kernel_rfl) (by kernel_rfl) (by kernel_rfl) (fun _ _ _ h => h) (Or.inl ⟨by kernel_rfl, fun W hSW => by go_simp; try with_reducible rfl⟩) (by assumption) ?_
   try simp only [List.getElem_toArray, List.getElem_cons_succ, List.getElem_cons_zero]
   try go_frame
  refine tkE ?_
  refine Tks.out (l := [(9, some (some (.bool false))), (10, some (some (.bool false)))]) ?_
  iterate 2
   refine tkV rfl (by kernel_rfl) (by kernel_rfl) (by kernel_rfl) (fun _ _ _ h => h) (Or.inl ⟨by kernel_rfl, fun W hSW => by go_simp; try with_reducible rfl⟩) (by assumption) ?_
   try simp only [List.getElem_toArray, List.getElem_cons_succ, List.getElem_cons_zero]
   try go_frame
  refine tkE ?_
  refine wpAnyH_done (by kernel_rfl) ?_ _
  obtain ⟨hc9, hs9, hn9, hown⟩ := HGd.out trivial
  subst hc9
  subst hs9
  subst hn9
  have HFd := hid (fun W (hk : Kept (fun _ => False) w3 W) => refFind_any _ l 259 W ((hown.tags.kept0 K23.out).kept0 hk) HLl.out HLs.out)
  have HTg := hid (fun W (hk : Kept (fun _ => False) w3 W) => (hown.tags.kept0 K23.out).kept0 hk)
  clear hown HGd
  generalize hfv1 : (findF l 259).1 = fv1 at *
  generalize hfn1 : (findF l 259).2 = fn1 at *
  have HMD : Hid (mineD h l = (h.uniq.toList.isEmpty || (decide (0 < (fn1 : Int)) && (fv1.toList == h.uniq.toList)))) := by
    show mineD h l = _
    unfold mineD
    rw [hfv1, hfn1]
    simp
  clear hfv1 hfn1
  obtain ⟨wd, hwd⟩ : ∃ wd, wd = w3.drew := ⟨_, rfl⟩
  have KD : Hid (Kept (fun _ => False) w3 wd) := by rw [hwd]; exact (Kept.refl _ w3).drew
  rw [← hwd]
  clear hwd
  go_wp2_with fail
  refine (HFd.out _ KD.out).mono ?_
  rintro e w4 ⟨rfl, hk4⟩
  have K34 := hid (KD.out.trans hk4)
  have K14 := hid (KB.out.trans (KD.out.trans hk4))
  clear hk4 KD HFd
  go_upto_region 5 with fail
  clear p0 p1 p2 p3 p4 p5 p6 p7 p8 p9 p10 p11 p12 p13 r0 r1 r2 r3 r4 r5 r10 r11 r12 r13 r14 r15 r16 r17
  obtain ⟨p0, p1, p2, p3, p4, p5, p6, p7, p8, p9, p10, p11, p12, p13⟩ := cells14 (C := fun W => Kept (fun _ => False) w4 W) (X := fb) (fun W hk => O1.out.kept (K14.out.trans hk))
  have r0 := fun W (hk : Kept (fun _ => False) w4 W) => (HC.out W (K14.out.trans hk)).c0
  have r1 := fun W (hk : Kept (fun _ => False) w4 W) => (HC.out W (K14.out.trans hk)).c1
  have r2 := fun W (hk : Kept (fun _ => False) w4 W) => (HC.out W (K14.out.trans hk)).c2
  have r3 := fun W (hk : Kept (fun _ => False) w4 W) => (HC.out W (K14.out.trans hk)).c3
  have r4 := fun W (hk : Kept (fun _ => False) w4 W) => (HC.out W (K14.out.trans hk)).c4
  have r5 := fun W (hk : Kept (fun _ => False) w4 W) => (HC.out W (K14.out.trans hk)).c5
  have r12 := fun W (hk : Kept (fun _ => False) w4 W) => (HC.out W (K14.out.trans hk)).c12
  have r13 := fun W (hk : Kept (fun _ => False) w4 W) => (HC.out W (K14.out.trans hk)).c13
  have r14 := fun W (hk : Kept (fun _ => False) w4 W) => (HC.out W (K14.out.trans hk)).c14
  have r15 := fun W (hk : Kept (fun _ => False) w4 W) => (HC.out W (K14.out.trans hk)).c15
  have r16 := fun W (hk : Kept (fun _ => False) w4 W) => (HC.out W (K14.out.trans hk)).c16
  have r17 := fun W (hk : Kept (fun _ => False) w4 W) => (HC.out W (K14.out.trans hk)).c17
  have r10 := fun W (hk : Kept (fun _ => False) w4 W) => (HC.out W (K14.out.trans hk)).c10
  have r11 := fun W (hk : Kept (fun _ => False) w4 W) => (HC.out W (K14.out.trans hk)).c11
  have hdl := (Array.getElem?_eq_some_iff.1 B3.out).1
  have q0 : ∀ W, Kept (fun _ => False) w4 W → W.cell? ⟨db, 0, none⟩ = some (.int .i64 (dc.code : Int)) := fun W hk => by simp [World.cell?, ((K34.out.trans hk).block db hdl (fun h => h)).trans B3.out]
  have q1 : ∀ W, Kept (fun _ => False) w4 W → W.cell? ⟨db, 1, none⟩ = some (.int .i64 (dc.session : Int)) := fun W hk => by simp [World.cell?, ((K34.out.trans hk).block db hdl (fun h => h)).trans B3.out]
  have u7 := (HC.out w4 K14.out).c7
  have u10 := (HC.out w4 K14.out).c10
  have v0 := q0 w4 (Kept.refl _ w4)
  have v1 := q1 w4 (Kept.refl _ w4)
  obtain ⟨mq, hmq⟩ : ∃ mq, mineD h l = mq := ⟨_, rfl⟩
  have HMQ := hid hmq
  go_cut [10] from 37 to 53 (fun v wx => v = .bool mq ∧ wx = w4)
  case first =>
    by_cases hu : h.uniq.toList.isEmpty = true
    · have hu1 : h.uniq.toList = [] := List.isEmpty_iff.1 hu
      have hq : true = mq := by rw [← hmq, HMD.out, hu]; rfl
      subst hq
      go_wp2
      go_meet
      exact ⟨rfl, rfl⟩
    · have hu0 : h.uniq.toList.isEmpty = false := by simpa using hu
      have hu1 : ¬ h.uniq.toList = [] := fun e => hu (List.isEmpty_iff.2 e)
      by_cases hN : (0 : Int) < (fn1 : Int)
      · have hq : (fv1.toList == h.uniq.toList) = mq := by rw [← hmq, HMD.out, hu0, decide_eq_true hN]; simp
        clear HMD hu
        go_wp2
        go_meet
        exact ⟨by first | rfl | (rw [← hq]) | trace_state, rfl⟩
      · have hq : false = mq := by rw [← hmq, HMD.out, hu0, decide_eq_false hN]; rfl
        subst hq
        go_wp2
        go_meet
        exact ⟨rfl, rfl⟩
  case rest =>
    obtain ⟨rfl, hwx⟩ := hcut
    replace hwx := hwx.symm
    subst hwx
    clear HMD u7
    obtain rfl : mq = true := HMQ.out.symm.trans hmi
    clear HMQ
    have t6 := fun W (hk : Kept (fun _ => False) w4 W) => (HC.out W (K14.out.trans hk)).c6
    go_upto_region 7 with fail
    clear u10 v0 v1
    go_wp2
    go_loopw [11, 12] (fun v11 v12 wr => ∃ j : Nat, j ≤ l.length ∧ v12 = .int .i64 (j : Int) ∧ v11 = .bool (offB h.service (l.take j)) ∧ Hid (Kept (fun _ => False) w4 wr)) (fun _ vi _ => l.length - (intOf vi).toNat)
    case atStart => exact ⟨0, Nat.zero_le _, rfl, by simp [offB], Kept.refl _ w4⟩
    case round =>
      obtain ⟨j, hj, rfl, rfl, HKr⟩ := hrel
      by_cases hlt : j < l.length
      · have hltz : (j : Int) < (l.length : Int) := by omega
        have hz0 : (0 : Int) ≤ (j : Int) := by omega
        have hlen := HLl.out
        obtain ⟨t, ht⟩ : ∃ t, l[j]? = some t := ⟨l[j], by simp [hlt]⟩
        obtain ⟨g, o, rfl, hcap, _, _⟩ := (HTg.out w4 K34.out).at ht
        have cA : ∀ W, Kept (fun _ => False) w4 W → W.cell? ⟨g, o + j * 2, none⟩ = some (.int .i64 t.type) := fun W hk => by
          obtain ⟨g', o', e, _, cc, _⟩ := (HTg.out W (K34.out.trans hk)).at ht
          cases e
          exact cc
        have cB : ∀ W, Kept (fun _ => False) w4 W → W.cell? ⟨g, o + j * 2 + 1, none⟩ = some (.string t.value) := fun W hk => by
          obtain ⟨g', o', e, _, _, cc⟩ := (HTg.out W (K34.out.trans hk)).at ht
          cases e
          exact cc
        have HOF : Hid (offB h.service (l.take (j + 1)) = (offB h.service (l.take j) || (decide (t.type = 257) && (t.value.toList == h.service.toList)))) := by
          show offB h.service (l.take (j + 1)) = _
          unfold offB
          rw [take_next ht, List.any_append]
          simp
        generalize offB h.service (l.take j) = off at *
        cases off with
        | true =>
          have hoff : offB h.service (l.take (j + 1)) = true := by rw [HOF.out]; rfl
          have HO := hid hoff
          clear hoff HOF
          go_upto_region 11 with fail
          refine wp_region_held_drew (S := Kept (fun _ => False) w4) (by kernel_rfl) (HKr.out.drew) (fun hSd => ?_)
          refine wpAnyH_take (i := 0) (v := ?_) rfl (by kernel_rfl) (by kernel_rfl) (by kernel_rfl) (fun _ _ _ h => h) (Or.inl ⟨by kernel_rfl, fun W hSW => by go_simp; try with_reducible rfl⟩) (by assumption) ?_
          try simp only [List.getElem_toArray, List.getElem_cons_zero]
          try go_frame
          refine wpAnyH_take (i := 1) (v := (.bool true)) rfl (by kernel_rfl) (by kernel_rfl) (by kernel_rfl) (fun _ _ _ h => h) (Or.inl ⟨by kernel_rfl, fun W hSW => by go_simp; try with_reducible rfl⟩) (by assumption) ?_
          try simp only [List.getElem_toArray, List.getElem_cons_succ, List.getElem_cons_zero]
          try go_frame
          refine Tks.out (l := [(2, none), (3, none), (4, none), (5, none), (6, none), (7, none), (8, none), (9, none), (10, none), (11, none), (12, none), (13, none), (14, none), (15, none), (16, none), (17, none), (18, none), (19, none)]) ?_
          iterate 18
           refine tkS rfl (by kernel_rfl) (by kernel_rfl) (by kernel_rfl) (fun _ _ _ h => h) (Or.inr ⟨by kernel_rfl, rfl⟩) (by assumption) ?_
           try simp only [List.getElem_toArray, List.getElem_cons_succ, List.getElem_cons_zero]
           try go_frame
          refine tkE ?_
          refine Tks.out (l := [(20, some (some (.bool true))), (21, some (some (.bool true)))]) ?_
          iterate 2
           refine tkV rfl (by kernel_rfl) (by kernel_rfl) (by kernel_rfl) (fun _ _ _ h => h) (Or.inl ⟨by kernel_rfl, fun W hSW => by go_simp; try with_reducible rfl⟩) (by assumption) ?_
           try simp only [List.getElem_toArray, List.getElem_cons_succ, List.getElem_cons_zero]
           try go_frame
          refine tkE ?_
          refine wpAnyH_done (by kernel_rfl) ?_ _
          have HKr2 := hid HKr.out.drew
          clear cA cB
          go_wp2
          go_roundw
          case rel => exact ⟨j + 1, by omega, by go_num, by rw [HO.out], HKr2.out⟩
          case measure => simp [intOf]; omega
        | false =>
          by_cases ht7 : t.type = 257
          · have ht7b : (t.type == 257) = true := by simp [ht7]
            obtain ⟨q, hq⟩ : ∃ q, (t.value.toList == h.service.toList) = q := ⟨_, rfl⟩
            have hoff : offB h.service (l.take (j + 1)) = q := by rw [HOF.out, decide_eq_true ht7, hq]; simp
            have HO := hid hoff
            clear hoff HOF ht7
            cases q with
            | true =>
              go_upto_region 11 with fail
              refine wp_region_held_drew (S := Kept (fun _ => False) w4) (by kernel_rfl) (HKr.out.drew) (fun hSd => ?_)
              refine wpAnyH_take (i := 0) (v := ?_) rfl (by kernel_rfl) (by kernel_rfl) (by kernel_rfl) (fun _ _ _ h => h) (Or.inl ⟨by kernel_rfl, fun W hSW => by go_simp; try with_reducible rfl⟩) (by assumption) ?_
              try simp only [List.getElem_toArray, List.getElem_cons_zero]
              try go_frame
              refine wpAnyH_take (i := 1) (v := (.bool false)) rfl (by kernel_rfl) (by kernel_rfl) (by kernel_rfl) (fun _ _ _ h => h) (Or.inl ⟨by kernel_rfl, fun W hSW => by go_simp; try with_reducible rfl⟩) (by assumption) ?_
              try simp only [List.getElem_toArray, List.getElem_cons_succ, List.getElem_cons_zero]
              try go_frame
              refine Tks.out (l := [(2, some none), (3, some none), (4, some none), (5, some none), (6, some none)]) ?_
              iterate 5
               refine tkT (v := ?_) rfl (by kernel_rfl) (by kernel_rfl) (by kernel_rfl) (fun _ _ _ h => h) (Or.inl ⟨by kernel_rfl, fun W hSW => by go_simp; try with_reducible rfl⟩) (by assumption) ?_
               try simp only [List.getElem_toArray, List.getElem_cons_succ, List.getElem_cons_zero]
               try go_frame
              refine tkE ?_
              refine Tks.out (l := [(7, some (some (.bool true))), (8, some (some (.bool true)))]) ?_
              iterate 2
               refine tkV rfl (by kernel_rfl) (by kernel_rfl) (by kernel_rfl) (fun _ _ _ h => h) (Or.inl ⟨by kernel_rfl, fun W hSW => by go_simp; try with_reducible rfl⟩) (by assumption) ?_
               try simp only [List.getElem_toArray, List.getElem_cons_succ, List.getElem_cons_zero]
               try go_frame
              refine tkE ?_
              refine Tks.out (l := [(9, some none), (10, some none), (11, some none), (12, some none), (13, some none), (14, some none), (15, some none), (16, some none), (17, some none)]) ?_
              iterate 9
               refine tkT (v := ?_) rfl (by kernel_rfl) (by kernel_rfl) (by kernel_rfl) (fun _ _ _ h => h) (Or.inl ⟨by kernel_rfl, fun W hSW => by go_simp; try with_reducible rfl⟩) (by assumption) ?_
               try simp only [List.getElem_toArray, List.getElem_cons_succ, List.getElem_cons_zero]
               try go_frame
              refine tkE ?_
              refine Tks.out (l := [(18, some (some (.bool true))), (19, some (some (.bool true))), (20, some (some (.bool true))), (21, some (some (.bool true)))]) ?_
              iterate 4
               refine tkV rfl (by kernel_rfl) (by kernel_rfl) (by kernel_rfl) (fun _ _ _ h => h) (Or.inl ⟨by kernel_rfl, fun W hSW => by go_simp; try with_reducible rfl⟩) (by assumption) ?_
               try simp only [List.getElem_toArray, List.getElem_cons_succ, List.getElem_cons_zero]
               try go_frame
              refine tkE ?_
              refine wpAnyH_done (by kernel_rfl) ?_ _
              have HKr2 := hid HKr.out.drew
              clear cA cB
              go_wp2
              go_roundw
              case rel => exact ⟨j + 1, by omega, by go_num, by rw [HO.out], HKr2.out⟩
              case measure => simp [intOf]; omega
            | false =>
              go_upto_region 11 with fail
              refine wp_region_held_drew (S := Kept (fun _ => False) w4) (by kernel_rfl) (HKr.out.drew) (fun hSd => ?_)
              refine wpAnyH_take (i := 0) (v := ?_) rfl (by kernel_rfl) (by kernel_rfl) (by kernel_rfl) (fun _ _ _ h => h) (Or.inl ⟨by kernel_rfl, fun W hSW => by go_simp; try with_reducible rfl⟩) (by assumption) ?_
              try simp only [List.getElem_toArray, List.getElem_cons_zero]
              try go_frame
              refine wpAnyH_take (i := 1) (v := (.bool false)) rfl (by kernel_rfl) (by kernel_rfl) (by kernel_rfl) (fun _ _ _ h => h) (Or.inl ⟨by kernel_rfl, fun W hSW => by go_simp; try with_reducible rfl⟩) (by assumption) ?_
              try simp only [List.getElem_toArray, List.getElem_cons_succ, List.getElem_cons_zero]
              try go_frame
              refine Tks.out (l := [(2, some none), (3, some none), (4, some none), (5, some none), (6, some none)]) ?_
              iterate 5
               refine tkT (v := ?_) rfl (by kernel_rfl) (by kernel_rfl) (by kernel_rfl) (fun _ _ _ h => h) (Or.inl ⟨by kernel_rfl, fun W hSW => by go_simp; try with_reducible rfl⟩) (by assumption) ?_
               try simp only [List.getElem_toArray, List.getElem_cons_succ, List.getElem_cons_zero]
               try go_frame
              refine tkE ?_
              refine Tks.out (l := [(7, some (some (.bool true))), (8, some (some (.bool true)))]) ?_
              iterate 2
               refine tkV rfl (by kernel_rfl) (by kernel_rfl) (by kernel_rfl) (fun _ _ _ h => h) (Or.inl ⟨by kernel_rfl, fun W hSW => by go_simp; try with_reducible rfl⟩) (by assumption) ?_
               try simp only [List.getElem_toArray, List.getElem_cons_succ, List.getElem_cons_zero]
               try go_frame
              refine tkE ?_
              refine Tks.out (l := [(9, some none), (10, some none), (11, some none), (12, some none), (13, some none), (14, some none), (15, some none), (16, some none), (17, some none)]) ?_
              iterate 9
               refine tkT (v := ?_) rfl (by kernel_rfl) (by kernel_rfl) (by kernel_rfl) (fun _ _ _ h => h) (Or.inl ⟨by kernel_rfl, fun W hSW => by go_simp; try with_reducible rfl⟩) (by assumption) ?_
               try simp only [List.getElem_toArray, List.getElem_cons_succ, List.getElem_cons_zero]
               try go_frame
              refine tkE ?_
              refine Tks.out (l := [(18, some (some (.bool false))), (19, some (some (.bool false))), (20, some (some (.bool false))), (21, some (some (.bool false)))]) ?_
              iterate 4
               refine tkV rfl (by kernel_rfl) (by kernel_rfl) (by kernel_rfl) (fun _ _ _ h => h) (Or.inl ⟨by kernel_rfl, fun W hSW => by go_simp; try with_reducible rfl⟩) (by assumption) ?_
               try simp only [List.getElem_toArray, List.getElem_cons_succ, List.getElem_cons_zero]
               try go_frame
              refine tkE ?_
              refine wpAnyH_done (by kernel_rfl) ?_ _
              have HKr2 := hid HKr.out.drew
              clear cA cB
              go_wp2
              go_roundw
              case rel => exact ⟨j + 1, by omega, by go_num, by rw [HO.out], HKr2.out⟩
              case measure => simp [intOf]; omega
          · have ht7b : (t.type == 257) = false := by simpa using ht7
            have hoff : offB h.service (l.take (j + 1)) = false := by rw [HOF.out, decide_eq_false ht7]; rfl
            have HO := hid hoff
            clear hoff HOF ht7
            go_upto_region 11 with fail
            refine wp_region_held_drew (S := Kept (fun _ => False) w4) (by kernel_rfl) (HKr.out.drew) (fun hSd => ?_)
            refine wpAnyH_take (i := 0) (v := ?_) rfl (by kernel_rfl) (by kernel_rfl) (by kernel_rfl) (fun _ _ _ h => h) (Or.inl ⟨by kernel_rfl, fun W hSW => by go_simp; try with_reducible rfl⟩) (by assumption) ?_
            try simp only [List.getElem_toArray, List.getElem_cons_zero]
            try go_frame
            refine wpAnyH_take (i := 1) (v := (.bool false)) rfl (by kernel_rfl) (by kernel_rfl) (by kernel_rfl) (fun _ _ _ h => h) (Or.inl ⟨by kernel_rfl, fun W hSW => by go_simp; try with_reducible rfl⟩) (by assumption) ?_
            try simp only [List.getElem_toArray, List.getElem_cons_succ, List.getElem_cons_zero]
            try go_frame
            refine Tks.out (l := [(2, some none), (3, some none), (4, some none), (5, some none), (6, some none)]) ?_
            iterate 5
             refine tkT (v := ?_) rfl (by kernel_rfl) (by kernel_rfl) (by kernel_rfl) (fun _ _ _ h => h) (Or.inl ⟨by kernel_rfl, fun W hSW => by go_simp; try with_reducible rfl⟩) (by assumption) ?_
             try simp only [List.getElem_toArray, List.getElem_cons_succ, List.getElem_cons_zero]
             try go_frame
            refine tkE ?_
            refine Tks.out (l := [(7, some (some (.bool false))), (8, some (some (.bool false)))]) ?_
            iterate 2
             refine tkV rfl (by kernel_rfl) (by kernel_rfl) (by kernel_rfl) (fun _ _ _ h => h) (Or.inl ⟨by kernel_rfl, fun W hSW => by go_simp; try with_reducible rfl⟩) (by assumption) ?_
             try simp only [List.getElem_toArray, List.getElem_cons_succ, List.getElem_cons_zero]
             try go_frame
            refine tkE ?_
            refine Tks.out (l := [(9, none), (10, none), (11, none), (12, none), (13, none), (14, none), (15, none), (16, none), (17, none), (18, none)]) ?_
            iterate 10
             refine tkS rfl (by kernel_rfl) (by kernel_rfl) (by kernel_rfl) (fun _ _ _ h => h) (Or.inr ⟨by kernel_rfl, rfl⟩) (by assumption) ?_
             try simp only [List.getElem_toArray, List.getElem_cons_succ, List.getElem_cons_zero]
             try go_frame
            refine tkE ?_
            refine Tks.out (l := [(19, some (some (.bool false))), (20, some (some (.bool false))), (21, some (some (.bool false)))]) ?_
            iterate 3
             refine tkV rfl (by kernel_rfl) (by kernel_rfl) (by kernel_rfl) (fun _ _ _ h => h) (Or.inl ⟨by kernel_rfl, fun W hSW => by go_simp; try with_reducible rfl⟩) (by assumption) ?_
             try simp only [List.getElem_toArray, List.getElem_cons_succ, List.getElem_cons_zero]
             try go_frame
            refine tkE ?_
            refine wpAnyH_done (by kernel_rfl) ?_ _
            have HKr2 := hid HKr.out.drew
            clear cA cB
            go_wp2
            go_roundw
            case rel => exact ⟨j + 1, by omega, by go_num, by rw [HO.out], HKr2.out⟩
            case measure => simp [intOf]; omega
      · have hltz : ¬ (j : Int) < (l.length : Int) := by omega
        obtain rfl : j = l.length := by omega
        rw [List.take_length]
        rw [HOFF.out]
        have HF2 := hid (fun W (hk : Kept (fun _ => False) w3 W) => refFind_any _ l 260 W (HTg.out W hk) HLl.out HLs.out)
        rw [HCKe.out, HCNe.out] at HF2
        go_wp2_with fail
        refine (HF2.out _ (K34.out.trans HKr.out)).mono ?_
        rintro e w6 ⟨rfl, hk6⟩
        have K46 := hid (HKr.out.trans hk6)
        clear hk6 HF2
        go_upto_region 15 with fail
        have hfbn : fb ≠ b := fun e => by have h1 := HFB.out; have h2 := HH.out.lt; omega
        have pS0 : ∀ W, Kept (fun i => i = b) w6 W → W.cell? ⟨fb, 6, none⟩ = some (.int .u8 s0) := fun W hk => (hk.cell (p := ⟨fb, 6, none⟩) (lt_of_cell (p6 w6 K46.out)) hfbn).trans (p6 w6 K46.out)
        have pS1 : ∀ W, Kept (fun i => i = b) w6 W → W.cell? ⟨fb, 7, none⟩ = some (.int .u8 s1) := fun W hk => (hk.cell (p := ⟨fb, 7, none⟩) (lt_of_cell (p7 w6 K46.out)) hfbn).trans (p7 w6 K46.out)
        have pS2 : ∀ W, Kept (fun i => i = b) w6 W → W.cell? ⟨fb, 8, none⟩ = some (.int .u8 s2) := fun W hk => (hk.cell (p := ⟨fb, 8, none⟩) (lt_of_cell (p8 w6 K46.out)) hfbn).trans (p8 w6 K46.out)
        have pS3 : ∀ W, Kept (fun i => i = b) w6 W → W.cell? ⟨fb, 9, none⟩ = some (.int .u8 s3) := fun W hk => (hk.cell (p := ⟨fb, 9, none⟩) (lt_of_cell (p9 w6 K46.out)) hfbn).trans (p9 w6 K46.out)
        have pS4 : ∀ W, Kept (fun i => i = b) w6 W → W.cell? ⟨fb, 10, none⟩ = some (.int .u8 s4) := fun W hk => (hk.cell (p := ⟨fb, 10, none⟩) (lt_of_cell (p10 w6 K46.out)) hfbn).trans (p10 w6 K46.out)
        have pS5 : ∀ W, Kept (fun i => i = b) w6 W → W.cell? ⟨fb, 11, none⟩ = some (.int .u8 s5) := fun W hk => (hk.cell (p := ⟨fb, 11, none⟩) (lt_of_cell (p11 w6 K46.out)) hfbn).trans (p11 w6 K46.out)
        have K06 := hid ((K1.out.trans K14.out).trans K46.out)
        have H6 := hid (HH.out.kept K06.out (fun h => h))
        have a10 := (H6.out.cells HX.out.1 HX.out.2).c10
        have b10 := H6.out.fz 10
        have H7 : Hid (HdIn (w6.setCell ⟨b, 10, none⟩ (.int .i64 2)) b { h with state := 2 }) := H6.out.set 10 _ (hd_state HG.out.mac 2)
        have a12 := (H7.out.cells HX.out.1 HX.out.2).c12
        have b12 := H7.out.fz 12
        have a13 := (H7.out.cells HX.out.1 HX.out.2).c13
        have b13 := H7.out.fz 13
        have a14 := (H7.out.cells HX.out.1 HX.out.2).c14
        have b14 := H7.out.fz 14
        have a15 := (H7.out.cells HX.out.1 HX.out.2).c15
        have b15 := H7.out.fz 15
        have a16 := (H7.out.cells HX.out.1 HX.out.2).c16
        have b16 := H7.out.fz 16
        have a17 := (H7.out.cells HX.out.1 HX.out.2).c17
        have b17 := H7.out.fz 17
        have H8 : Hid (HdIn (((((((w6.setCell ⟨b, 10, none⟩ (.int .i64 2)).setCell ⟨b, 12, none⟩ (.int .u8 s0)).setCell ⟨b, 13, none⟩ (.int .u8 s1)).setCell ⟨b, 14, none⟩ (.int .u8 s2)).setCell ⟨b, 15, none⟩ (.int .u8 s3)).setCell ⟨b, 16, none⟩ (.int .u8 s4)).setCell ⟨b, 17, none⟩ (.int .u8 s5)) b { h with state := 2, ac := src }) := HdIn.setAc (h := { h with state := 2 }) H7.out HG.out.mac HG.out.ac HSR.out
        have a18 := H8.out.cell 18
        have b18 := H8.out.fz 18
        rw [hd_18 (h := { h with state := 2, ac := src }) HG.out.mac HSL.out] at a18
        simp only at a18
        have H9 : Hid (HdIn ((((((((w6.setCell ⟨b, 10, none⟩ (.int .i64 2)).setCell ⟨b, 12, none⟩ (.int .u8 s0)).setCell ⟨b, 13, none⟩ (.int .u8 s1)).setCell ⟨b, 14, none⟩ (.int .u8 s2)).setCell ⟨b, 15, none⟩ (.int .u8 s3)).setCell ⟨b, 16, none⟩ (.int .u8 s4)).setCell ⟨b, 17, none⟩ (.int .u8 s5)).setCell ⟨b, 18, none⟩ (.string ck)) b { h with state := 2, ac := src, cookie := ck }) := H8.out.set 18 _ (hd_cookie (h := { h with state := 2, ac := src }) HG.out.mac HSL.out _)
        have a19 := H9.out.cell 19
        have b19 := H9.out.fz 19
        rw [hd_19 (h := { h with state := 2, ac := src, cookie := ck }) HG.out.mac HSL.out] at a19
        simp only at a19
        have H10 : Hid (HdIn (((((((((w6.setCell ⟨b, 10, none⟩ (.int .i64 2)).setCell ⟨b, 12, none⟩ (.int .u8 s0)).setCell ⟨b, 13, none⟩ (.int .u8 s1)).setCell ⟨b, 14, none⟩ (.int .u8 s2)).setCell ⟨b, 15, none⟩ (.int .u8 s3)).setCell ⟨b, 16, none⟩ (.int .u8 s4)).setCell ⟨b, 17, none⟩ (.int .u8 s5)).setCell ⟨b, 18, none⟩ (.string ck)).setCell ⟨b, 19, none⟩ (.bool false)) b { h with state := 2, ac := src, cookie := ck, has := false }) := H9.out.set 19 _ (hd_has (h := { h with state := 2, ac := src, cookie := ck }) HG.out.mac HSL.out _)
        have a21 := H10.out.cell 21
        have b21 := H10.out.fz 21
        rw [hd_21 (h := { h with state := 2, ac := src, cookie := ck, has := false }) HG.out.mac HSL.out] at a21
        simp only at a21
        have H11 : Hid (HdIn ((((((((((w6.setCell ⟨b, 10, none⟩ (.int .i64 2)).setCell ⟨b, 12, none⟩ (.int .u8 s0)).setCell ⟨b, 13, none⟩ (.int .u8 s1)).setCell ⟨b, 14, none⟩ (.int .u8 s2)).setCell ⟨b, 15, none⟩ (.int .u8 s3)).setCell ⟨b, 16, none⟩ (.int .u8 s4)).setCell ⟨b, 17, none⟩ (.int .u8 s5)).setCell ⟨b, 18, none⟩ (.string ck)).setCell ⟨b, 19, none⟩ (.bool false)).setCell ⟨b, 21, none⟩ (.int .i64 0)) b { h with state := 2, ac := src, cookie := ck, has := false, tries := 0 }) := H10.out.set 21 _ (hd_tries (h := { h with state := 2, ac := src, cookie := ck, has := false }) HG.out.mac HSL.out _)
        have U10 := (Kept.refl (fun i => i = b) w6).setCell (p := ⟨b, 10, none⟩) (Or.inr rfl) (.int .i64 2)
        have U12 := U10.setCell (p := ⟨b, 12, none⟩) (Or.inr rfl) (.int .u8 s0)
        have U13 := U12.setCell (p := ⟨b, 13, none⟩) (Or.inr rfl) (.int .u8 s1)
        have U14 := U13.setCell (p := ⟨b, 14, none⟩) (Or.inr rfl) (.int .u8 s2)
        have U15 := U14.setCell (p := ⟨b, 15, none⟩) (Or.inr rfl) (.int .u8 s3)
        have U16 := U15.setCell (p := ⟨b, 16, none⟩) (Or.inr rfl) (.int .u8 s4)
        have U17 := U16.setCell (p := ⟨b, 17, none⟩) (Or.inr rfl) (.int .u8 s5)
        have U18 := U17.setCell (p := ⟨b, 18, none⟩) (Or.inr rfl) (.string ck)
        have U19 := U18.setCell (p := ⟨b, 19, none⟩) (Or.inr rfl) (.bool false)
        have U21 := U19.setCell (p := ⟨b, 21, none⟩) (Or.inr rfl) (.int .i64 0)
        have T1 := U10.drew
        have T2 := U17.drew
        have T3 := U18.drew
        have T4 := U19.drew
        have T5 := U21.drew
        clear U10 U12 U13 U14 U15 U16 U17 U18 U19 U21
        have H11d := hid (HdIn.drew H11.out)
        clear H11
        refine wp_region_held_drew (S := Kept (fun i => i = b) w6) (by kernel_rfl) ((Kept.refl _ w6).drew) (fun hSd => ?_)
        refine Tks.out (l := [(0, some none), (1, some none), (2, some none), (3, some none), (4, some none), (5, some none), (6, some none), (7, some none), (8, some none)]) ?_
        iterate 9
         refine tkT (v := ?_) rfl (by kernel_rfl) (by kernel_rfl) (by kernel_rfl) (fun _ _ _ h => h) (Or.inl ⟨by kernel_rfl, fun W hSW => by go_simp; try with_reducible rfl⟩) (by assumption) ?_
         try simp only [List.getElem_toArray, List.getElem_cons_succ, List.getElem_cons_zero]
         try go_frame
        refine tkE ?_
        refine wpAnyH_take (i := 9) (v := (.bool false)) rfl (by kernel_rfl) (by kernel_rfl) (by kernel_rfl) (fun _ _ _ h => h) (Or.inl ⟨by kernel_rfl, fun W hSW => by go_simp; try with_reducible rfl⟩) (by assumption) ?_
        try simp only [List.getElem_toArray, List.getElem_cons_succ, List.getElem_cons_zero]
        try go_frame
        refine Tks.out (l := [(10, some none), (11, some none)]) ?_
        iterate 2
         refine tkT (v := ?_) rfl (by kernel_rfl) (by kernel_rfl) (by kernel_rfl) (fun _ _ _ h => h) (Or.inl ⟨by kernel_rfl, fun W hSW => by go_simp; try with_reducible rfl⟩) (by assumption) ?_
         try simp only [List.getElem_toArray, List.getElem_cons_succ, List.getElem_cons_zero]
         try go_frame
        refine tkE ?_
        refine wpAnyH_ready (rs := [12]) (by kernel_rfl) (by simp) ?_
        refine AllReadyH.cons rfl (fun K hK => ?_) AllReadyH.nil
        go_simp
        refine hK.out _ _ (T1) (fun _ => ?_)
        clear hK K
        try simp only [List.getElem_toArray, List.getElem_cons_succ, List.getElem_cons_zero]
        try go_frame
        refine Tks.out (l := [(13, some none), (14, some none)]) ?_
        iterate 2
         refine tkT (v := ?_) rfl (by kernel_rfl) (by kernel_rfl) (by kernel_rfl) (fun _ _ _ h => h) (Or.inl ⟨by kernel_rfl, fun W hSW => by go_simp; try with_reducible rfl⟩) (by assumption) ?_
         try simp only [List.getElem_toArray, List.getElem_cons_succ, List.getElem_cons_zero]
         try go_frame
        refine tkE ?_
        refine wpAnyH_ready (rs := [15]) (by kernel_rfl) (by simp) ?_
        refine AllReadyH.cons rfl (fun K hK => ?_) AllReadyH.nil
        go_simp
        refine hK.out _ _ (T2) (fun _ => ?_)
        clear hK K
        try simp only [List.getElem_toArray, List.getElem_cons_succ, List.getElem_cons_zero]
        try go_frame
        refine Tks.out (l := [(16, some none), (17, some none)]) ?_
        iterate 2
         refine tkT (v := ?_) rfl (by kernel_rfl) (by kernel_rfl) (by kernel_rfl) (fun _ _ _ h => h) (Or.inl ⟨by kernel_rfl, fun W hSW => by go_simp; try with_reducible rfl⟩) (by assumption) ?_
         try simp only [List.getElem_toArray, List.getElem_cons_succ, List.getElem_cons_zero]
         try go_frame
        refine tkE ?_
        refine wpAnyH_ready (rs := [18]) (by kernel_rfl) (by simp) ?_
        refine AllReadyH.cons rfl (fun K hK => ?_) AllReadyH.nil
        go_simp
        refine hK.out _ _ (T3) (fun _ => ?_)
        clear hK K
        try simp only [List.getElem_toArray, List.getElem_cons_succ, List.getElem_cons_zero]
        try go_frame
        refine Tks.out (l := [(19, some none), (20, some none)]) ?_
        iterate 2
         refine tkT (v := ?_) rfl (by kernel_rfl) (by kernel_rfl) (by kernel_rfl) (fun _ _ _ h => h) (Or.inl ⟨by kernel_rfl, fun W hSW => by go_simp; try with_reducible rfl⟩) (by assumption) ?_
         try simp only [List.getElem_toArray, List.getElem_cons_succ, List.getElem_cons_zero]
         try go_frame
        refine tkE ?_
        refine wpAnyH_ready (rs := [21]) (by kernel_rfl) (by simp) ?_
        refine AllReadyH.cons rfl (fun K hK => ?_) AllReadyH.nil
        go_simp
        refine hK.out _ _ (T4) (fun _ => ?_)
        clear hK K
        try simp only [List.getElem_toArray, List.getElem_cons_succ, List.getElem_cons_zero]
        try go_frame
        refine Tks.out (l := [(22, some none), (23, some none)]) ?_
        iterate 2
         refine tkT (v := ?_) rfl (by kernel_rfl) (by kernel_rfl) (by kernel_rfl) (fun _ _ _ h => h) (Or.inl ⟨by kernel_rfl, fun W hSW => by go_simp; try with_reducible rfl⟩) (by assumption) ?_
         try simp only [List.getElem_toArray, List.getElem_cons_succ, List.getElem_cons_zero]
         try go_frame
        refine tkE ?_
        refine wpAnyH_ready (rs := [24]) (by kernel_rfl) (by simp) ?_
        refine AllReadyH.cons rfl (fun K hK => ?_) AllReadyH.nil
        go_simp
        refine hK.out _ _ (T5) (fun _ => ?_)
        clear hK K
        try simp only [List.getElem_toArray, List.getElem_cons_succ, List.getElem_cons_zero]
        try go_frame
        refine wpAnyH_done (by kernel_rfl) ?_ _
        have KF := hid ((K06.out.mono (T := fun i => i = b) (fun _ _ h => h.elim)).trans T5)
        have HA := hid (rAsk_any b { h with state := 2, ac := src, cookie := ck, has := false, tries := 0 } ⟨HG.out.mac, HSL.out, HG.out.service, HG.out.uniq, HG.out.retry, HG.out.wait, HCK.out, HG.out.ticks, ⟨by show (0 : Int) ≤ 0; decide, HG.out.retry.1⟩⟩ _ H11d.out)
        clear T1 T2 T3 T4 T5 hfbn pS0 pS1 pS2 pS3 pS4 pS5 a10 b10 a12 b12 a13 b13 a14 b14 a15 b15 a16 b16 a17 b17 a18 b18 a19 b19 a21 b21
        generalize ((((((((((w6.setCell ⟨b, 10, none⟩ (.int .i64 2)).setCell ⟨b, 12, none⟩ (.int .u8 s0)).setCell ⟨b, 13, none⟩ (.int .u8 s1)).setCell ⟨b, 14, none⟩ (.int .u8 s2)).setCell ⟨b, 15, none⟩ (.int .u8 s3)).setCell ⟨b, 16, none⟩ (.int .u8 s4)).setCell ⟨b, 17, none⟩ (.int .u8 s5)).setCell ⟨b, 18, none⟩ (.string ck)).setCell ⟨b, 19, none⟩ (.bool false)).setCell ⟨b, 21, none⟩ (.int .i64 0)).drew = w7 at *
        clear p0 p1 p2 p3 p4 p5 p6 p7 p8 p9 p10 p11 p12 p13 r0 r1 r2 r3 r4 r5 r10 r11 r12 r13 r14 r15 r16 r17 q0 q1 t6
        go_wp2_with fail
        refine HA.out.mono ?_
        rintro e w8 ⟨u8, rfl, hu8, hh8, hk8⟩
        have HFN := hid (And.intro (hu8.mono KF.out.size) (And.intro hh8 (KF.out.trans hk8)))
        clear hu8 hh8 hk8
        go_wp2
        go_ret
        exact ⟨u8, rfl, HFN.out⟩

end Go.Proofs.YtffnppfoofifgaaGreat
