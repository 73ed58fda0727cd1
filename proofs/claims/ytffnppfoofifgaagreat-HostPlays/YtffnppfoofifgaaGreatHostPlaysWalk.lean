/- The walk of the law HostPlays: for every card, names, numbers and list of steps it returns true, and leaves what was there. (Written by gen_plays8.py.) -/
import Derived.Test.YtffnppfoofifgaaGreatTk
import Derived.Test.YtffnppfoofifgaaGreatHpAll
import Derived.Test.YtffnppfoofifgaaGreatHsLaw
import Derived.OpenShut
import Derived.Deep.CutRange
import Derived.Deep.CutBlock
namespace Go.Proofs.YtffnppfoofifgaaGreat
open Go.RowKit
open BEthers (El GoodF OwnB RdB)

set_option maxHeartbeats 8000000 in
set_option maxRecDepth 100000 in
theorem hostPlays_walk (m : List UInt8) (s u : ByteArray) (r t : Int) (v : Value) (l : List Op8) (w : World) (hm : m.length = 6) (hs : s.size ≤ 140737488351232) (hu : u.size ≤ 140737488351232) (hr : -9223372036854775808 ≤ r ∧ r ≤ 9223372036854775807) (ht : -9223372036854775808 ≤ t ∧ t ≤ 9223372036854775807) (hv : Ops8 w v l) (hl : ∀ x ∈ l, Fit8 x) :
    Calls Tryz.prog 3 #[.agg (Lib.byteCells m).toArray, .string s, .string u, .int .i64 r, .int .i64 t, v] w fun e w' => e = .returned (.bool true) ∧ Below w.heap.size w w' := by
  have HA := hid alive_any
  obtain ⟨p, cap, rfl⟩ := hv.slice
  have HV := hid hv
  have HX := hid hl
  have C1b := hid (fun (h : ¬ GoodNew s u r t) W => newH_bad m hm s u r t h W)
  have C1g := hid (fun (r t : Nat) (h : s.size ≤ 40 ∧ u.size ≤ 40 ∧ r ≤ 10 ∧ 1 ≤ t ∧ t ≤ 100) W => newH_ok m hm s u h.1 h.2.1 r t h.2.2.1 h.2.2.2.1 h.2.2.2.2 W)
  have C2 := hid (fun W => rNewHost_any m hm s u r t W)
  have HM := hid hm
  obtain ⟨x0, x1, x2, x3, x4, x5, hx⟩ := six_cells hm
  rw [hx] at C1b C1g C2
  have K0 := hid ((Kept.refl (fun _ => False) w).alloc (.cells #[.int .u8 x0, .int .u8 x1, .int .u8 x2, .int .u8 x3, .int .u8 x4, .int .u8 x5] 23))
  have B0 := hid (Bx.new w #[.int .u8 x0, .int .u8 x1, .int .u8 x2, .int .u8 x3, .int .u8 x4, .int .u8 x5] 23)
  have hw : IntKind.i64.wrap ((s.size : Int) + (u.size : Int)) = (s.size : Int) + (u.size : Int) := by rw [IntKind.wrap_i64]; omega
  rw [hx]
  clear hv hx hm hl
  by_cases h200 : 200 < l.length
  · have hz : (200 : Int) < (l.length : Int) := by omega
    go_enter Tryz.func3, Tryz.ntmps3
    go_upto_region 1 with fail
    generalize w.alloc (.cells #[.int .u8 x0, .int .u8 x1, .int .u8 x2, .int .u8 x3, .int .u8 x4, .int .u8 x5] 23) = W at *
    go_wp2_with fail
    refine (HA.out _).mono ?_
    rintro e w2 ⟨rfl, k2⟩
    have K2 := hid (K0.out.trans k2)
    clear k2
    go_wp2
    go_ret
    exact ⟨rfl, below_of K2.out⟩
  have hz : ¬ (200 : Int) < (l.length : Int) := by omega
  by_cases h300 : 300 < s.size + u.size
  · have hz3 : (300 : Int) < (s.size : Int) + (u.size : Int) := by omega
    go_enter Tryz.func3, Tryz.ntmps3
    go_upto_region 1 with fail
    generalize w.alloc (.cells #[.int .u8 x0, .int .u8 x1, .int .u8 x2, .int .u8 x3, .int .u8 x4, .int .u8 x5] 23) = W at *
    go_wp2_with fail
    refine (HA.out _).mono ?_
    rintro e w2 ⟨rfl, k2⟩
    have K2 := hid (K0.out.trans k2)
    clear k2
    go_wp2
    go_ret
    exact ⟨rfl, below_of K2.out⟩
  have hz3 : ¬ (300 : Int) < (s.size : Int) + (u.size : Int) := by omega
  by_cases hg : GoodNew s u r t
  · obtain ⟨rn, rfl⟩ : ∃ n : Nat, r = (n : Int) := ⟨r.toNat, by have := hg.2.2.1; omega⟩
    obtain ⟨tn, rfl⟩ : ∃ n : Nat, t = (n : Int) := ⟨t.toNat, by have := hg.2.2.2.2.1; omega⟩
    have T0 := hid (tg_new (m := m) HM.out hg)
    have C1 := hid (C1g.out rn tn (by obtain ⟨g1, g2, g3, g4, g5, g6⟩ := hg; exact ⟨g1, g2, by omega, by omega, by omega⟩))
    have HG := hid hg
    obtain ⟨BC, hBC⟩ : ∃ BC, BEthers.bookCells (fun _ => .slice none 0 0) (.slice none 0 0) (.slice none 0 0) = BC := ⟨_, rfl⟩
    have HBC := hid hBC
    clear hBC hg C1b C1g
    go_enter Tryz.func3, Tryz.ntmps3
    go_upto_region 1 with fail
    generalize w.alloc (.cells #[.int .u8 x0, .int .u8 x1, .int .u8 x2, .int .u8 x3, .int .u8 x4, .int .u8 x5] 23) = W at *
    have c0 := B0.out.cell 0
    have c1 := B0.out.cell 1
    have c2 := B0.out.cell 2
    have c3 := B0.out.cell 3
    have c4 := B0.out.cell 4
    have c5 := B0.out.cell 5
    simp only [List.getElem?_toArray, List.getElem?_cons_zero, List.getElem?_cons_succ] at c0 c1 c2 c3 c4 c5
    go_wp2_with fail
    refine (C1.out _).mono ?_
    rintro e w1 ⟨rfl, m1⟩
    have M1 := hid m1
    have B1 := hid (B0.out.kept m1.kept)
    generalize W.heap.size + 1 = b at *
    clear m1 B0 C1 c0 c1 c2 c3 c4 c5
    have c0 := B1.out.cell 0
    have c1 := B1.out.cell 1
    have c2 := B1.out.cell 2
    have c3 := B1.out.cell 3
    have c4 := B1.out.cell 4
    have c5 := B1.out.cell 5
    simp only [List.getElem?_toArray, List.getElem?_cons_zero, List.getElem?_cons_succ] at c0 c1 c2 c3 c4 c5
    go_wp2_with fail
    refine (C2.out _).mono ?_
    rintro e w2 ⟨h2, k2⟩
    rcases h2 with ⟨hn, _⟩ | ⟨_, d, hd, rfl, hD⟩
    · exact absurd HG.out hn
    have PH0 : Hid (PH w (w2.alloc (.cells BC 53)) b d w2.heap.size (newH m s u rn tn) (newD m s u (rn : Int) (tn : Int)) 0) := by
      have h := ph_new K0.out M1.out hD hd k2
      rw [HBC.out] at h
      exact h
    generalize newH m s u rn tn = h0 at *
    generalize newD m s u (rn : Int) (tn : Int) = D0 at *
    clear k2 hd hD M1 B1 C2 K0 HG HM c0 c1 c2 c3 c4 c5
    go_wp2_with (refine wpList_bookE HBC.out rfl rfl ?_)
    generalize w2.alloc (.cells BC 53) = w3 at *
    generalize w2.heap.size = bk at *
    clear HBC
    go_loopw [18] (fun vi wr => ∃ (j : Nat) (h : Hs) (D : Hd), j ≤ l.length ∧ vi = .int .i64 (j : Int) ∧ Hid (PH w wr b d bk h D j ∧ TG h D)) (fun vi _ => l.length - (intOf vi).toNat)
    case atStart => exact ⟨0, _, _, Nat.zero_le _, rfl, PH0.out, T0.out⟩
    case round =>
      obtain ⟨j, h, D, hj, rfl, HJ⟩ := hrel
      have PJ := hid HJ.out.1
      have TJ := hid HJ.out.2
      clear PH0 T0 HJ h0 D0
      by_cases hlt : j < l.length
      · have hltz : (j : Int) < (l.length : Int) := by omega
        obtain ⟨⟨k, ⟨fd, fs, ty, x⟩, y⟩, hx⟩ : ∃ x, l[j]? = some x := ⟨l[j], by simp [hlt]⟩
        have hok := HX.out _ (List.mem_of_getElem? hx)
        obtain ⟨g, o, rfl, hcap, hcl⟩ := HV.out.at hx
        obtain ⟨d0, d1, d2, d3, d4, d5, s0, s1, s2, s3, s4, s5, efv, eop⟩ := op_cells2 hok.1.1 hok.1.2 k ty x y
        rw [eop] at hcl
        have HC : Hid (∀ i u, ([.int .i64 k, .int .u8 d0, .int .u8 d1, .int .u8 d2, .int .u8 d3, .int .u8 d4, .int .u8 d5, .int .u8 s0, .int .u8 s1, .int .u8 s2, .int .u8 s3, .int .u8 s4, .int .u8 s5, .int .i64 ty, .string x, .string y] : List Value)[i]? = some u → wr.cell? ⟨g, o + j * 16 + i, none⟩ = some u) := fun i u hu => (PJ.out.kept.cell (p := ⟨g, o + j * 16 + i, none⟩) (lt_of_cell (hcl i u hu)) id).trans (hcl i u hu)
        have HF := hid efv
        have HOK := hid hok
        have hwx : IntKind.i64.wrap ((x.size : Int) + (y.size : Int)) = (x.size : Int) + (y.size : Int) := by have h3 : x.size ≤ 140737488351232 := hok.2.1; have h4 : y.size ≤ 140737488351232 := hok.2.2; rw [IntKind.wrap_i64]; omega
        clear hx hcl eop efv hok
        have e0 := HC.out 0 _ rfl
        have e1 := HC.out 1 _ rfl
        have e2 := HC.out 2 _ rfl
        have e3 := HC.out 3 _ rfl
        have e4 := HC.out 4 _ rfl
        have e5 := HC.out 5 _ rfl
        have e6 := HC.out 6 _ rfl
        have e7 := HC.out 7 _ rfl
        have e8 := HC.out 8 _ rfl
        have e9 := HC.out 9 _ rfl
        have e10 := HC.out 10 _ rfl
        have e11 := HC.out 11 _ rfl
        have e12 := HC.out 12 _ rfl
        have e13 := HC.out 13 _ rfl
        have e14 := HC.out 14 _ rfl
        have e15 := HC.out 15 _ rfl
        simp only [Nat.add_zero] at e0 e1 e2 e3 e4 e5 e6 e7 e8 e9 e10 e11 e12 e13 e14 e15
        have X1 := hid (Bx.new wr #[.int .i64 k, .int .u8 d0, .int .u8 d1, .int .u8 d2, .int .u8 d3, .int .u8 d4, .int .u8 d5, .int .u8 s0, .int .u8 s1, .int .u8 s2, .int .u8 s3, .int .u8 s4, .int .u8 s5, .int .i64 ty, .string x, .string y] 57)
        have P1 := hid (PJ.out.still ((Kept.refl (fun _ => False) wr).alloc (.cells #[.int .i64 k, .int .u8 d0, .int .u8 d1, .int .u8 d2, .int .u8 d3, .int .u8 d4, .int .u8 d5, .int .u8 s0, .int .u8 s1, .int .u8 s2, .int .u8 s3, .int .u8 s4, .int .u8 s5, .int .i64 ty, .string x, .string y] 57)))
        go_upto_region 14 with fail
        generalize wr.alloc (.cells #[.int .i64 k, .int .u8 d0, .int .u8 d1, .int .u8 d2, .int .u8 d3, .int .u8 d4, .int .u8 d5, .int .u8 s0, .int .u8 s1, .int .u8 s2, .int .u8 s3, .int .u8 s4, .int .u8 s5, .int .i64 ty, .string x, .string y] 57) = V at *
        generalize wr.heap.size = c at *
        clear HC PJ e0 e1 e2 e3 e4 e5 e6 e7 e8 e9 e10 e11 e12 e13 e14 e15
        have c0 := X1.out.cell 0
        have c1 := X1.out.cell 1
        have c2 := X1.out.cell 2
        have c3 := X1.out.cell 3
        have c4 := X1.out.cell 4
        have c5 := X1.out.cell 5
        have c6 := X1.out.cell 6
        have c7 := X1.out.cell 7
        have c8 := X1.out.cell 8
        have c9 := X1.out.cell 9
        have c10 := X1.out.cell 10
        have c11 := X1.out.cell 11
        have c12 := X1.out.cell 12
        have c13 := X1.out.cell 13
        have c14 := X1.out.cell 14
        have c15 := X1.out.cell 15
        simp only [List.getElem?_toArray, List.getElem?_cons_zero, List.getElem?_cons_succ] at c0 c1 c2 c3 c4 c5 c6 c7 c8 c9 c10 c11 c12 c13 c14 c15
        by_cases hbig : 3000 < x.size + y.size
        · have hbz : (3000 : Int) < (x.size : Int) + (y.size : Int) := by omega
          go_wp2
          go_ret
          exact ⟨rfl, below_of P1.out.kept⟩
        have hbz : ¬ (3000 : Int) < (x.size : Int) + (y.size : Int) := by omega
        go_upto_block 2 with fail
        go_cut [20, 21, 22, 23, 24, 25, 26, 27, 28, 29] from 81 to 209 (fun v20 v21 _ _ _ _ _ _ _ _ wx => ∃ (L : List El) (h' : Hs) (D' : Hd) (q1 q2 : Option Addr) (z1 z2 : Nat), v20 = .slice q1 L.length z1 ∧ v21 = .slice q2 L.length z2 ∧ Hid (PHV w wx b d bk h' D' j (.slice q1 L.length z1) L ∧ RdB wx (.slice q2 L.length z2) L ∧ TG h' D' ∧ L.length ≤ 1))
        case first =>
          by_cases hk1 : k = 1
          · have hk1b : (k == 1) = true := by simp [hk1]
            clear hk1 
            as_aux_lemma =>
              obtain ⟨h', D', L, A⟩ := arm_start (w := w) (b := b) (d := d) (bk := bk) (n := j) TJ.out
              have AR := hid A
              clear A
              go_wp2_with fail
              refine (AR.out.p _ P1.out).mono ?_
              rintro e w4 ⟨q1, z1, rfl, m4, _⟩
              have M4 := hid m4
              clear m4 P1 X1 c0 c1 c2 c3 c4 c5 c6 c7 c8 c9 c10 c11 c12 c13 c14 c15
              go_wp2_with fail
              refine (AR.out.d _ _ M4.out).mono ?_
              rintro e w5 ⟨q2, z2, rfl, m5, o5, _⟩
              have F5 := hid (show PHV w w5 b d bk h' D' j (.slice q1 L.length z1) L ∧ RdB w5 (.slice q2 L.length z2) L ∧ TG h' D' ∧ L.length ≤ 1 from ⟨m5, ⟨_, o5⟩, AR.out.tg, AR.out.few⟩)
              clear m5 o5 M4 AR
              go_wp2
              go_meet
              exact ⟨L, h', D', q1, q2, z1, z2, rfl, rfl, F5.out⟩
          have hk1b : (k == 1) = false := by simpa using hk1
          by_cases hk2 : k = 2
          · have hk2b : (k == 2) = true := by simp [hk2]
            clear hk2 hk1
            as_aux_lemma =>
              obtain ⟨h', D', L, A⟩ := arm_stop (w := w) (b := b) (d := d) (bk := bk) (n := j) TJ.out
              have AR := hid A
              clear A
              go_wp2_with fail
              refine (AR.out.p _ P1.out).mono ?_
              rintro e w4 ⟨q1, z1, rfl, m4, _⟩
              have M4 := hid m4
              clear m4 P1 X1 c0 c1 c2 c3 c4 c5 c6 c7 c8 c9 c10 c11 c12 c13 c14 c15
              go_wp2_with fail
              refine (AR.out.d _ _ M4.out).mono ?_
              rintro e w5 ⟨q2, z2, rfl, m5, o5, _⟩
              have F5 := hid (show PHV w w5 b d bk h' D' j (.slice q1 L.length z1) L ∧ RdB w5 (.slice q2 L.length z2) L ∧ TG h' D' ∧ L.length ≤ 1 from ⟨m5, ⟨_, o5⟩, AR.out.tg, AR.out.few⟩)
              clear m5 o5 M4 AR
              go_wp2
              go_meet
              exact ⟨L, h', D', q1, q2, z1, z2, rfl, rfl, F5.out⟩
          have hk2b : (k == 2) = false := by simpa using hk2
          by_cases hk3 : k = 3
          · have hk3b : (k == 3) = true := by simp [hk3]
            clear hk3 hk1 hk2
            as_aux_lemma =>
              obtain ⟨h', D', L, A⟩ := arm_tick (w := w) (b := b) (d := d) (bk := bk) (n := j) TJ.out
              have AR := hid A
              clear A
              go_wp2_with fail
              refine (AR.out.p _ P1.out).mono ?_
              rintro e w4 ⟨q1, z1, rfl, m4, _⟩
              have M4 := hid m4
              clear m4 P1 X1 c0 c1 c2 c3 c4 c5 c6 c7 c8 c9 c10 c11 c12 c13 c14 c15
              go_wp2_with fail
              refine (AR.out.d _ _ M4.out).mono ?_
              rintro e w5 ⟨q2, z2, rfl, m5, o5, _⟩
              have F5 := hid (show PHV w w5 b d bk h' D' j (.slice q1 L.length z1) L ∧ RdB w5 (.slice q2 L.length z2) L ∧ TG h' D' ∧ L.length ≤ 1 from ⟨m5, ⟨_, o5⟩, AR.out.tg, AR.out.few⟩)
              clear m5 o5 M4 AR
              go_wp2
              go_meet
              exact ⟨L, h', D', q1, q2, z1, z2, rfl, rfl, F5.out⟩
          have hk3b : (k == 3) = false := by simpa using hk3
          by_cases hk5 : k = 5
          · have hk5b : (k == 5) = true := by simp [hk5]
            clear hk5 hk1 hk2 hk3
            as_aux_lemma =>
              obtain ⟨dx, dq, p5, q5⟩ := rd_data (w := w) (b := b) (d := d) (bk := bk) (n := j) TJ.out ⟨fd, fs, ty, x⟩ HOK.out.1.1 HOK.out.1.2 (by show x.size ≤ 1000000; omega)
              have PP := hid p5
              have QQ := hid q5
              rw [HF.out] at PP QQ
              clear p5 q5
              have hqq : (dq != dq) = false := by simp
              go_wp2_with fail
              refine (PP.out _ P1.out).mono ?_
              rintro e w4 ⟨rfl, m4, k4⟩
              have M4 := hid m4
              have X4 := hid (X1.out.kept k4)
              clear m4 k4 P1 X1 PP c0 c1 c2 c3 c4 c5 c6 c7 c8 c9 c10 c11 c12 c13 c14 c15
              have c0 := X4.out.cell 0
              have c1 := X4.out.cell 1
              have c2 := X4.out.cell 2
              have c3 := X4.out.cell 3
              have c4 := X4.out.cell 4
              have c5 := X4.out.cell 5
              have c6 := X4.out.cell 6
              have c7 := X4.out.cell 7
              have c8 := X4.out.cell 8
              have c9 := X4.out.cell 9
              have c10 := X4.out.cell 10
              have c11 := X4.out.cell 11
              have c12 := X4.out.cell 12
              have c13 := X4.out.cell 13
              have c14 := X4.out.cell 14
              have c15 := X4.out.cell 15
              simp only [List.getElem?_toArray, List.getElem?_cons_zero, List.getElem?_cons_succ] at c0 c1 c2 c3 c4 c5 c6 c7 c8 c9 c10 c11 c12 c13 c14 c15
              go_wp2_with fail
              refine (QQ.out _ M4.out).mono ?_
              rintro e w5 ⟨rfl, m5, k5⟩
              have M5 := hid m5
              clear m5 k5 M4 X4 QQ c0 c1 c2 c3 c4 c5 c6 c7 c8 c9 c10 c11 c12 c13 c14 c15
              go_wp2
              go_meet
              exact ⟨[], h, D, none, none, 0, 0, rfl, rfl, M5.out.nilV, ⟨0, OwnB.nil _ _⟩, TJ.out, by decide⟩
          have hk5b : (k == 5) = false := by simpa using hk5
          by_cases hk6 : k = 6
          · have hk6b : (k == 6) = true := by simp [hk6]
            clear hk6 hk1 hk2 hk3 hk5
            as_aux_lemma =>
              obtain ⟨fr, fq, hgf, p5, q5⟩ := rd_frame (w := w) (b := b) (d := d) (bk := bk) (n := j) TJ.out y (by omega)
              have PP := hid p5
              have QQ := hid q5
              have HEq := BEthers.fr_self hgf
              obtain ⟨a0, a1, a2, a3, a4, a5, b0, b1, b2, b3, b4, b5, fty, fx, hfr⟩ := fr_cells hgf
              change ∀ W, Sem.run Tryz.prog (Op.equalIn 10000 55 (frV fr) (frV fr)) W = .ok true W at HEq
              rw [hfr] at PP QQ HEq
              clear p5 q5 hgf hfr
              have hqq : (fq != fq) = false := by simp
              go_wp2_with fail
              refine (PP.out _ P1.out).mono ?_
              rintro e w4 ⟨rfl, m4, k4⟩
              have M4 := hid (m4.still ((Kept.refl (fun _ => False) w4).alloc (.cells #[.int .u8 a0, .int .u8 a1, .int .u8 a2, .int .u8 a3, .int .u8 a4, .int .u8 a5, .int .u8 b0, .int .u8 b1, .int .u8 b2, .int .u8 b3, .int .u8 b4, .int .u8 b5, .int .i64 fty, .string fx] 55)))
              have X4 := hid (X1.out.kept (k4.alloc (.cells #[.int .u8 a0, .int .u8 a1, .int .u8 a2, .int .u8 a3, .int .u8 a4, .int .u8 a5, .int .u8 b0, .int .u8 b1, .int .u8 b2, .int .u8 b3, .int .u8 b4, .int .u8 b5, .int .i64 fty, .string fx] 55)))
              have G4 := hid (Bx.new w4 #[.int .u8 a0, .int .u8 a1, .int .u8 a2, .int .u8 a3, .int .u8 a4, .int .u8 a5, .int .u8 b0, .int .u8 b1, .int .u8 b2, .int .u8 b3, .int .u8 b4, .int .u8 b5, .int .i64 fty, .string fx] 55)
              clear m4 k4 P1 X1 PP c0 c1 c2 c3 c4 c5 c6 c7 c8 c9 c10 c11 c12 c13 c14 c15
              go_upto_region 32 with fail
              generalize w4.alloc (.cells #[.int .u8 a0, .int .u8 a1, .int .u8 a2, .int .u8 a3, .int .u8 a4, .int .u8 a5, .int .u8 b0, .int .u8 b1, .int .u8 b2, .int .u8 b3, .int .u8 b4, .int .u8 b5, .int .i64 fty, .string fx] 55) = V4 at *
              generalize w4.heap.size = g4 at *
              have c0 := X4.out.cell 0
              have c1 := X4.out.cell 1
              have c2 := X4.out.cell 2
              have c3 := X4.out.cell 3
              have c4 := X4.out.cell 4
              have c5 := X4.out.cell 5
              have c6 := X4.out.cell 6
              have c7 := X4.out.cell 7
              have c8 := X4.out.cell 8
              have c9 := X4.out.cell 9
              have c10 := X4.out.cell 10
              have c11 := X4.out.cell 11
              have c12 := X4.out.cell 12
              have c13 := X4.out.cell 13
              have c14 := X4.out.cell 14
              have c15 := X4.out.cell 15
              simp only [List.getElem?_toArray, List.getElem?_cons_zero, List.getElem?_cons_succ] at c0 c1 c2 c3 c4 c5 c6 c7 c8 c9 c10 c11 c12 c13 c14 c15
              go_wp2_with fail
              refine (QQ.out _ M4.out).mono ?_
              rintro e w5 ⟨rfl, m5, k5⟩
              have M5 := hid (m5.still ((Kept.refl (fun _ => False) w5).alloc (.cells #[.int .u8 a0, .int .u8 a1, .int .u8 a2, .int .u8 a3, .int .u8 a4, .int .u8 a5, .int .u8 b0, .int .u8 b1, .int .u8 b2, .int .u8 b3, .int .u8 b4, .int .u8 b5, .int .i64 fty, .string fx] 55)))
              have G5 := hid (G4.out.kept (k5.alloc (.cells #[.int .u8 a0, .int .u8 a1, .int .u8 a2, .int .u8 a3, .int .u8 a4, .int .u8 a5, .int .u8 b0, .int .u8 b1, .int .u8 b2, .int .u8 b3, .int .u8 b4, .int .u8 b5, .int .i64 fty, .string fx] 55)))
              have I5 := hid (Bx.new w5 #[.int .u8 a0, .int .u8 a1, .int .u8 a2, .int .u8 a3, .int .u8 a4, .int .u8 a5, .int .u8 b0, .int .u8 b1, .int .u8 b2, .int .u8 b3, .int .u8 b4, .int .u8 b5, .int .i64 fty, .string fx] 55)
              clear m5 k5 M4 X4 QQ G4 c0 c1 c2 c3 c4 c5 c6 c7 c8 c9 c10 c11 c12 c13 c14 c15
              go_upto_region 33 with fail
              generalize w5.alloc (.cells #[.int .u8 a0, .int .u8 a1, .int .u8 a2, .int .u8 a3, .int .u8 a4, .int .u8 a5, .int .u8 b0, .int .u8 b1, .int .u8 b2, .int .u8 b3, .int .u8 b4, .int .u8 b5, .int .i64 fty, .string fx] 55) = V5 at *
              generalize w5.heap.size = i5 at *
              have g0 := G5.out.cell 0
              have g1 := G5.out.cell 1
              have g2 := G5.out.cell 2
              have g3 := G5.out.cell 3
              have g4 := G5.out.cell 4
              have g5 := G5.out.cell 5
              have g6 := G5.out.cell 6
              have g7 := G5.out.cell 7
              have g8 := G5.out.cell 8
              have g9 := G5.out.cell 9
              have g10 := G5.out.cell 10
              have g11 := G5.out.cell 11
              have g12 := G5.out.cell 12
              have g13 := G5.out.cell 13
              simp only [List.getElem?_toArray, List.getElem?_cons_zero, List.getElem?_cons_succ] at g0 g1 g2 g3 g4 g5 g6 g7 g8 g9 g10 g11 g12 g13
              have i0 := I5.out.cell 0
              have i1 := I5.out.cell 1
              have i2 := I5.out.cell 2
              have i3 := I5.out.cell 3
              have i4 := I5.out.cell 4
              have i5 := I5.out.cell 5
              have i6 := I5.out.cell 6
              have i7 := I5.out.cell 7
              have i8 := I5.out.cell 8
              have i9 := I5.out.cell 9
              have i10 := I5.out.cell 10
              have i11 := I5.out.cell 11
              have i12 := I5.out.cell 12
              have i13 := I5.out.cell 13
              simp only [List.getElem?_toArray, List.getElem?_cons_zero, List.getElem?_cons_succ] at i0 i1 i2 i3 i4 i5 i6 i7 i8 i9 i10 i11 i12 i13
              go_wp2
              go_meet
              exact ⟨[], h, D, none, none, 0, 0, rfl, rfl, M5.out.nilV, ⟨0, OwnB.nil _ _⟩, TJ.out, by decide⟩
          have hk6b : (k == 6) = false := by simpa using hk6
          clear hk1 hk2 hk3 hk5 hk6
          as_aux_lemma =>
            obtain ⟨h', D', L, A⟩ := arm_take (w := w) (b := b) (d := d) (bk := bk) (n := j) TJ.out ⟨fd, fs, ty, x⟩ HOK.out.1.1 HOK.out.1.2 (by show x.size ≤ 1000000; omega)
            rw [HF.out] at A
            have AR := hid A
            clear A c0 c1 c2 c3 c4 c5 c6 c7 c8 c9 c10 c11 c12 c13 c14 c15
            go_upto_region 18 with fail
            have s0' : ∀ U, (Kept (fun _ => False) w U ∧ Bx U c #[.int .i64 k, .int .u8 d0, .int .u8 d1, .int .u8 d2, .int .u8 d3, .int .u8 d4, .int .u8 d5, .int .u8 s0, .int .u8 s1, .int .u8 s2, .int .u8 s3, .int .u8 s4, .int .u8 s5, .int .i64 ty, .string x, .string y] 57) → U.cell? ⟨c, 1, none⟩ = some (.int .u8 d0) := fun U hk => hk.2.cell 1
            have s1' : ∀ U, (Kept (fun _ => False) w U ∧ Bx U c #[.int .i64 k, .int .u8 d0, .int .u8 d1, .int .u8 d2, .int .u8 d3, .int .u8 d4, .int .u8 d5, .int .u8 s0, .int .u8 s1, .int .u8 s2, .int .u8 s3, .int .u8 s4, .int .u8 s5, .int .i64 ty, .string x, .string y] 57) → U.cell? ⟨c, 2, none⟩ = some (.int .u8 d1) := fun U hk => hk.2.cell 2
            have s2' : ∀ U, (Kept (fun _ => False) w U ∧ Bx U c #[.int .i64 k, .int .u8 d0, .int .u8 d1, .int .u8 d2, .int .u8 d3, .int .u8 d4, .int .u8 d5, .int .u8 s0, .int .u8 s1, .int .u8 s2, .int .u8 s3, .int .u8 s4, .int .u8 s5, .int .i64 ty, .string x, .string y] 57) → U.cell? ⟨c, 3, none⟩ = some (.int .u8 d2) := fun U hk => hk.2.cell 3
            have s3' : ∀ U, (Kept (fun _ => False) w U ∧ Bx U c #[.int .i64 k, .int .u8 d0, .int .u8 d1, .int .u8 d2, .int .u8 d3, .int .u8 d4, .int .u8 d5, .int .u8 s0, .int .u8 s1, .int .u8 s2, .int .u8 s3, .int .u8 s4, .int .u8 s5, .int .i64 ty, .string x, .string y] 57) → U.cell? ⟨c, 4, none⟩ = some (.int .u8 d3) := fun U hk => hk.2.cell 4
            have s4' : ∀ U, (Kept (fun _ => False) w U ∧ Bx U c #[.int .i64 k, .int .u8 d0, .int .u8 d1, .int .u8 d2, .int .u8 d3, .int .u8 d4, .int .u8 d5, .int .u8 s0, .int .u8 s1, .int .u8 s2, .int .u8 s3, .int .u8 s4, .int .u8 s5, .int .i64 ty, .string x, .string y] 57) → U.cell? ⟨c, 5, none⟩ = some (.int .u8 d4) := fun U hk => hk.2.cell 5
            have s5' : ∀ U, (Kept (fun _ => False) w U ∧ Bx U c #[.int .i64 k, .int .u8 d0, .int .u8 d1, .int .u8 d2, .int .u8 d3, .int .u8 d4, .int .u8 d5, .int .u8 s0, .int .u8 s1, .int .u8 s2, .int .u8 s3, .int .u8 s4, .int .u8 s5, .int .i64 ty, .string x, .string y] 57) → U.cell? ⟨c, 6, none⟩ = some (.int .u8 d5) := fun U hk => hk.2.cell 6
            have s6' : ∀ U, (Kept (fun _ => False) w U ∧ Bx U c #[.int .i64 k, .int .u8 d0, .int .u8 d1, .int .u8 d2, .int .u8 d3, .int .u8 d4, .int .u8 d5, .int .u8 s0, .int .u8 s1, .int .u8 s2, .int .u8 s3, .int .u8 s4, .int .u8 s5, .int .i64 ty, .string x, .string y] 57) → U.cell? ⟨c, 7, none⟩ = some (.int .u8 s0) := fun U hk => hk.2.cell 7
            have s7' : ∀ U, (Kept (fun _ => False) w U ∧ Bx U c #[.int .i64 k, .int .u8 d0, .int .u8 d1, .int .u8 d2, .int .u8 d3, .int .u8 d4, .int .u8 d5, .int .u8 s0, .int .u8 s1, .int .u8 s2, .int .u8 s3, .int .u8 s4, .int .u8 s5, .int .i64 ty, .string x, .string y] 57) → U.cell? ⟨c, 8, none⟩ = some (.int .u8 s1) := fun U hk => hk.2.cell 8
            have s8' : ∀ U, (Kept (fun _ => False) w U ∧ Bx U c #[.int .i64 k, .int .u8 d0, .int .u8 d1, .int .u8 d2, .int .u8 d3, .int .u8 d4, .int .u8 d5, .int .u8 s0, .int .u8 s1, .int .u8 s2, .int .u8 s3, .int .u8 s4, .int .u8 s5, .int .i64 ty, .string x, .string y] 57) → U.cell? ⟨c, 9, none⟩ = some (.int .u8 s2) := fun U hk => hk.2.cell 9
            have s9' : ∀ U, (Kept (fun _ => False) w U ∧ Bx U c #[.int .i64 k, .int .u8 d0, .int .u8 d1, .int .u8 d2, .int .u8 d3, .int .u8 d4, .int .u8 d5, .int .u8 s0, .int .u8 s1, .int .u8 s2, .int .u8 s3, .int .u8 s4, .int .u8 s5, .int .i64 ty, .string x, .string y] 57) → U.cell? ⟨c, 10, none⟩ = some (.int .u8 s3) := fun U hk => hk.2.cell 10
            have s10' : ∀ U, (Kept (fun _ => False) w U ∧ Bx U c #[.int .i64 k, .int .u8 d0, .int .u8 d1, .int .u8 d2, .int .u8 d3, .int .u8 d4, .int .u8 d5, .int .u8 s0, .int .u8 s1, .int .u8 s2, .int .u8 s3, .int .u8 s4, .int .u8 s5, .int .i64 ty, .string x, .string y] 57) → U.cell? ⟨c, 11, none⟩ = some (.int .u8 s4) := fun U hk => hk.2.cell 11
            have s11' : ∀ U, (Kept (fun _ => False) w U ∧ Bx U c #[.int .i64 k, .int .u8 d0, .int .u8 d1, .int .u8 d2, .int .u8 d3, .int .u8 d4, .int .u8 d5, .int .u8 s0, .int .u8 s1, .int .u8 s2, .int .u8 s3, .int .u8 s4, .int .u8 s5, .int .i64 ty, .string x, .string y] 57) → U.cell? ⟨c, 12, none⟩ = some (.int .u8 s5) := fun U hk => hk.2.cell 12
            have s12' : ∀ U, (Kept (fun _ => False) w U ∧ Bx U c #[.int .i64 k, .int .u8 d0, .int .u8 d1, .int .u8 d2, .int .u8 d3, .int .u8 d4, .int .u8 d5, .int .u8 s0, .int .u8 s1, .int .u8 s2, .int .u8 s3, .int .u8 s4, .int .u8 s5, .int .i64 ty, .string x, .string y] 57) → U.cell? ⟨c, 13, none⟩ = some (.int .i64 ty) := fun U hk => hk.2.cell 13
            have s13' : ∀ U, (Kept (fun _ => False) w U ∧ Bx U c #[.int .i64 k, .int .u8 d0, .int .u8 d1, .int .u8 d2, .int .u8 d3, .int .u8 d4, .int .u8 d5, .int .u8 s0, .int .u8 s1, .int .u8 s2, .int .u8 s3, .int .u8 s4, .int .u8 s5, .int .i64 ty, .string x, .string y] 57) → U.cell? ⟨c, 14, none⟩ = some (.string x) := fun U hk => hk.2.cell 14
            refine wp_region_held_drew (S := (fun U => Kept (fun _ => False) w U ∧ Bx U c #[.int .i64 k, .int .u8 d0, .int .u8 d1, .int .u8 d2, .int .u8 d3, .int .u8 d4, .int .u8 d5, .int .u8 s0, .int .u8 s1, .int .u8 s2, .int .u8 s3, .int .u8 s4, .int .u8 s5, .int .i64 ty, .string x, .string y] 57)) (by kernel_rfl) (⟨P1.out.kept.drew, X1.out⟩) (fun hSd => ?_)
            refine Tks.out (l := [(0, some none), (1, some none), (2, some none), (4, some none), (5, some none), (6, some none)]) ?_
            iterate 6
             refine tkT (v := ?_) rfl (by kernel_rfl) (by kernel_rfl) (by kernel_rfl) (fun _ _ _ h => h) (Or.inl ⟨by kernel_rfl, fun W hSW => by go_simp; try with_reducible rfl⟩) (by assumption) ?_
             try simp only [List.getElem_toArray, List.getElem_cons_succ, List.getElem_cons_zero]
             try go_frame
            refine tkE ?_
            refine wpAnyH_ready (rs := [3]) (by kernel_rfl) (by simp) ?_
            refine AllReadyH.cons rfl (fun K hK => ?_) AllReadyH.nil
            go_simp
            refine (AR.out.p _ (P1.out.still (Kept.refl _ V).drew)).mono ?_
            rintro e w4 ⟨q1, z1, rfl, m4, k4⟩
            have M4 := hid m4
            have X4 : Kept (fun _ => False) w w4 ∧ Bx w4 c #[.int .i64 k, .int .u8 d0, .int .u8 d1, .int .u8 d2, .int .u8 d3, .int .u8 d4, .int .u8 d5, .int .u8 s0, .int .u8 s1, .int .u8 s2, .int .u8 s3, .int .u8 s4, .int .u8 s5, .int .i64 ty, .string x, .string y] 57 := ⟨m4.ph.kept, (X1.out.kept (Kept.refl _ V).drew).kp k4⟩
            clear m4 k4
            refine hK.out _ _ (X4) (fun _ => ?_)
            clear hK K
            try simp only [List.getElem_toArray, List.getElem_cons_succ, List.getElem_cons_zero]
            try go_frame
            refine wpAnyH_ready (rs := [7]) (by kernel_rfl) (by simp) ?_
            refine AllReadyH.cons rfl (fun K hK => ?_) AllReadyH.nil
            go_simp
            refine (AR.out.d _ _ M4.out).mono ?_
            rintro e w5 ⟨q2, z2, rfl, m5, o5, k5⟩
            have F5 := hid (show PHV w w5 b d bk h' D' j (.slice q1 L.length z1) L ∧ RdB w5 (.slice q2 L.length z2) L ∧ TG h' D' ∧ L.length ≤ 1 from ⟨m5, ⟨_, o5⟩, AR.out.tg, AR.out.few⟩)
            have X5 : Kept (fun _ => False) w w5 ∧ Bx w5 c #[.int .i64 k, .int .u8 d0, .int .u8 d1, .int .u8 d2, .int .u8 d3, .int .u8 d4, .int .u8 d5, .int .u8 s0, .int .u8 s1, .int .u8 s2, .int .u8 s3, .int .u8 s4, .int .u8 s5, .int .i64 ty, .string x, .string y] 57 := ⟨m5.ph.kept, X4.2.kp k5⟩
            clear m5 o5 k5
            refine hK.out _ _ (X5) (fun _ => ?_)
            clear hK K
            try simp only [List.getElem_toArray, List.getElem_cons_succ, List.getElem_cons_zero]
            try go_frame
            refine Tks.out (l := [(8, some none), (9, some none)]) ?_
            iterate 2
             refine tkT (v := ?_) rfl (by kernel_rfl) (by kernel_rfl) (by kernel_rfl) (fun _ _ _ h => h) (Or.inl ⟨by kernel_rfl, fun W hSW => by go_simp; try with_reducible rfl⟩) (by assumption) ?_
             try simp only [List.getElem_toArray, List.getElem_cons_succ, List.getElem_cons_zero]
             try go_frame
            refine tkE ?_
            refine wpAnyH_done (by kernel_rfl) ?_ _
            go_wp2
            go_meet
            exact ⟨L, h', D', q1, q2, z1, z2, rfl, rfl, F5.out⟩
        case rest =>
          as_aux_lemma =>
            obtain ⟨L, h', D', q1, q2, z1, z2, rfl, rfl, HL⟩ := hcut
            have M4 := hid HL.out.1
            have R4 := hid HL.out.2.1
            have TT := hid HL.out.2.2.1
            have hL1 := hid HL.out.2.2.2
            clear HL P1 X1 TJ c0 c1 c2 c3 c4 c5 c6 c7 c8 c9 c10 c11 c12 c13 c14 c15
            obtain ⟨ss, sk, mc, hmc, p5, q5⟩ := rd_state (w := w) (b := b) (d := d) (bk := bk) (n := j + 1) TT.out
            have PP := hid p5
            have QQ := hid q5
            have HEq := mac_eq mc mc hmc hmc
            simp only [decide_true] at HEq
            obtain ⟨y0, y1, y2, y3, y4, y5, hmy⟩ := six_cells hmc
            rw [hmy] at PP QQ HEq
            clear p5 q5 hmy hmc
            have hs1 : (ss != ss) = false := by simp
            have hs2 : (sk != sk) = false := by simp
            go_wp2_with fail
            refine (M4.out.keep (by omega) hL1.out).mono ?_
            rintro e w5 ⟨rfl, m5, k5⟩
            have M5 := hid m5
            have U5 : Hid (∃ base, OwnB w5 base (.slice q1 L.length z1) L) := by
              obtain ⟨S, v6, v7, vs, us, Ls, _, h1, _⟩ := M4.out
              exact ⟨_, k5 _ _ _ h1⟩
            have R5 : Hid (RdB w5 (.slice q2 L.length z2) L) := by
              obtain ⟨base, h1⟩ := R4.out
              exact ⟨_, k5 _ _ _ h1⟩
            clear m5 k5 M4 R4
            go_wp2_with fail
            refine (PP.out _ M5.out).mono ?_
            rintro e w6 ⟨rfl, m6, k6⟩
            have M6 := hid (m6.still ((Kept.refl (fun _ => False) w6).alloc (.cells #[.int .u8 y0, .int .u8 y1, .int .u8 y2, .int .u8 y3, .int .u8 y4, .int .u8 y5] 23)))
            have K6 := hid (k6.alloc (.cells #[.int .u8 y0, .int .u8 y1, .int .u8 y2, .int .u8 y3, .int .u8 y4, .int .u8 y5] 23))
            have G6 := hid (Bx.new w6 #[.int .u8 y0, .int .u8 y1, .int .u8 y2, .int .u8 y3, .int .u8 y4, .int .u8 y5] 23)
            clear m6 k6 M5 PP
            go_upto_region 37 with fail
            generalize w6.alloc (.cells #[.int .u8 y0, .int .u8 y1, .int .u8 y2, .int .u8 y3, .int .u8 y4, .int .u8 y5] 23) = V6 at *
            generalize w6.heap.size = g6 at *
            go_wp2_with fail
            refine (QQ.out _ M6.out).mono ?_
            rintro e w7 ⟨rfl, m7, k7⟩
            have M7 := hid (m7.still ((Kept.refl (fun _ => False) w7).alloc (.cells #[.int .u8 y0, .int .u8 y1, .int .u8 y2, .int .u8 y3, .int .u8 y4, .int .u8 y5] 23)))
            have K7 := hid (K6.out.trans (k7.alloc (.cells #[.int .u8 y0, .int .u8 y1, .int .u8 y2, .int .u8 y3, .int .u8 y4, .int .u8 y5] 23)))
            have G7 := hid (G6.out.kept (k7.alloc (.cells #[.int .u8 y0, .int .u8 y1, .int .u8 y2, .int .u8 y3, .int .u8 y4, .int .u8 y5] 23)))
            have I7 := hid (Bx.new w7 #[.int .u8 y0, .int .u8 y1, .int .u8 y2, .int .u8 y3, .int .u8 y4, .int .u8 y5] 23)
            clear m7 k7 M6 QQ K6 G6
            go_upto_region 38 with fail
            generalize w7.alloc (.cells #[.int .u8 y0, .int .u8 y1, .int .u8 y2, .int .u8 y3, .int .u8 y4, .int .u8 y5] 23) = V7 at *
            generalize w7.heap.size = i7 at *
            have U7 : Hid (RdB V7 (.slice q1 L.length z1) L) := by
              obtain ⟨base, h1⟩ := U5.out
              exact ⟨_, h1.kept K7.out⟩
            have R7 : Hid (RdB V7 (.slice q2 L.length z2) L) := by
              obtain ⟨base, h1⟩ := R5.out
              exact ⟨_, h1.kept K7.out⟩
            clear K7 U5 R5
            go_wp2_with fail
            refine (BEthers.sameEthers_eq _ _ L _ U7.out R7.out (by have := hL1.out; omega)).mono ?_
            rintro e w8 ⟨rfl, k8⟩
            have M8 := hid (M7.out.still k8)
            have G8 := hid (G7.out.kept k8)
            have I8 := hid (I7.out.kept k8)
            clear k8 M7 G7 I7 U7 R7
            have g0 := G8.out.cell 0
            have g1 := G8.out.cell 1
            have g2 := G8.out.cell 2
            have g3 := G8.out.cell 3
            have g4 := G8.out.cell 4
            have g5 := G8.out.cell 5
            simp only [List.getElem?_toArray, List.getElem?_cons_zero, List.getElem?_cons_succ] at g0 g1 g2 g3 g4 g5
            have i0 := I8.out.cell 0
            have i1 := I8.out.cell 1
            have i2 := I8.out.cell 2
            have i3 := I8.out.cell 3
            have i4 := I8.out.cell 4
            have i5 := I8.out.cell 5
            simp only [List.getElem?_toArray, List.getElem?_cons_zero, List.getElem?_cons_succ] at i0 i1 i2 i3 i4 i5
            go_wp2
            exact ⟨⟨j + 1, h', D', hlt, by go_num, M8.out, TT.out⟩, by simp [intOf]; omega⟩
      · obtain rfl : j = l.length := by omega
        have hltz : ¬ (l.length : Int) < (l.length : Int) := by omega
        go_wp2_with fail
        refine (HA.out _).mono ?_
        rintro e w4 ⟨rfl, k4⟩
        have P4 := hid (PJ.out.still k4)
        clear k4 PJ
        go_wp2_with fail
        refine (P4.out.apart (by omega)).mono ?_
        rintro e w5 ⟨rfl, b5⟩
        have B5 := hid b5
        clear b5 P4
        go_wp2
        go_ret
        exact ⟨rfl, B5.out⟩
  · have C1 := hid (C1b.out hg)
    have HG := hid hg
    clear hg C1b C1g
    go_enter Tryz.func3, Tryz.ntmps3
    go_upto_region 1 with fail
    generalize w.alloc (.cells #[.int .u8 x0, .int .u8 x1, .int .u8 x2, .int .u8 x3, .int .u8 x4, .int .u8 x5] 23) = W at *
    have c0 := B0.out.cell 0
    have c1 := B0.out.cell 1
    have c2 := B0.out.cell 2
    have c3 := B0.out.cell 3
    have c4 := B0.out.cell 4
    have c5 := B0.out.cell 5
    simp only [List.getElem?_toArray, List.getElem?_cons_zero, List.getElem?_cons_succ] at c0 c1 c2 c3 c4 c5
    go_wp2_with fail
    refine (C1.out _).mono ?_
    rintro e w1 ⟨rfl, k1⟩
    have K1 := hid (K0.out.trans k1)
    have B1 := hid (B0.out.kept k1)
    clear k1 B0 K0 C1 c0 c1 c2 c3 c4 c5
    have c0 := B1.out.cell 0
    have c1 := B1.out.cell 1
    have c2 := B1.out.cell 2
    have c3 := B1.out.cell 3
    have c4 := B1.out.cell 4
    have c5 := B1.out.cell 5
    simp only [List.getElem?_toArray, List.getElem?_cons_zero, List.getElem?_cons_succ] at c0 c1 c2 c3 c4 c5
    go_wp2_with fail
    refine (C2.out _).mono ?_
    rintro e w2 ⟨h2, k2⟩
    rcases h2 with ⟨_, rfl⟩ | ⟨hn, _⟩
    · have K2 := hid (K1.out.trans k2)
      clear k2 K1 B1 C2 c0 c1 c2 c3 c4 c5
      go_wp2_with fail
      refine (HA.out _).mono ?_
      rintro e w3 ⟨rfl, k3⟩
      have K3 := hid (K2.out.trans k3)
      clear k3 K2
      go_wp2
      go_ret
      exact ⟨rfl, below_of K3.out⟩
    · exact absurd hn HG.out
end Go.Proofs.YtffnppfoofifgaaGreat
