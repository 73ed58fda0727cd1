/- The law NegMeets: it returns true for every two units and every number of fails, and leaves what was there. -/
import Derived.Test.YtodgkmjiiijfpaaNgMeet
import Derived.Test.YtodgkmjiiijfpaaNgSetup
import Derived.Test.YtodgkmjiiijfpaaNgTheirs
namespace Go.Proofs.Ytodgkmjiiijfpaa
open Go.RowKit

theorem putM {a : ByteArray} (h : a.size = 2) : (putOptsF [⟨1, a⟩]).2 = 0 := put1 (by omega)
theorem endB_size {fa : Bool} {a : ByteArray} (h : a.size = 2) : (endB fa a).size ≤ 140737488351232 := by
  cases fa
  · show sugB.size ≤ _
    decide
  · show a.size ≤ _
    omega

set_option maxHeartbeats 8000000 in
set_option maxRecDepth 100000 in
theorem negMeets_walk (a b : ByteArray) (f : Int) (w : World) (_h1 : a.size ≤ 140737488351232) (_h2 : b.size ≤ 140737488351232) (_h3 : In64 f) :
    Calls Try.prog 6 #[.string a, .string b, .int .i64 f] w fun e w' => e = .returned (.bool true) ∧ Below w.heap.size w w' := by
  have Ha := hid lawAlive_any
  by_cases hok : a.size = 2 ∧ b.size = 2 ∧ 2 ≤ f ∧ f ≤ 10
  · obtain ⟨c1, c2, c3, c4⟩ := hok
    have z1 : ((a.size : Int) != 2) = false := by simp [c1]
    have z2 : ((b.size : Int) != 2) = false := by simp [c2]
    have z3 : ¬ f < 2 := by omega
    have z4 : ¬ 10 < f := by omega
    obtain ⟨fa, hfa⟩ : ∃ fa, fitsF rule1 a = fa := ⟨_, rfl⟩
    obtain ⟨fb, hfb⟩ : ∃ fb, fitsF rule1 b = fb := ⟨_, rfl⟩
    have HStX := hid (ag_step c3 c4 hfa hfb)
    have HStZ := hid (ag_step c3 c4 hfb hfa)
    have HOkX := hid (fun i => ag_ok fa fb f (show a.size ≤ 1000 by omega) (show b.size ≤ 1000 by omega) i)
    have HOkZ := hid (fun i => ag_ok fb fa f (show b.size ≤ 1000 by omega) (show a.size ≤ 1000 by omega) i)
    have HFeX := hid (ag_few fa fb a b f)
    have HFeZ := hid (ag_few fb fa b a f)
    have HEnX := hid (ag_end fa fb a b f 6)
    have HEnZ := hid (ag_end fb fa b a f 6)
    have HFiA := hid (end_fits hfa)
    have HFiB := hid (end_fits hfb)
    have HSzA := hid (endB_size (fa := fa) c1)
    have HSzB := hid (endB_size (fa := fb) c2)
    have HSu := hid (fun s W => lawSetup_any s f W)
    unfold setupV at HSu
    have HNw := hid (fun (s : ByteArray) (hs : s.size = 2) (va vo vp : Value) (W : World) (h1 : OptsAt W va [⟨1, s⟩]) (h2 : RulesAt W vo [rule1]) (h3 : RulesAt W vp [rule1]) => ngNew_any va vo vp [⟨1, s⟩] [rule1] [rule1] 5 2 f 2 W h1 h2 h3 (by decide) (by decide) ⟨by omega, by omega⟩ (by decide) (fine_one (by omega)) (putM hs) (alone1 _) good1 good1)
    unfold setupV at HNw
    have C1 := hid c1
    have C2 := hid c2
    clear c1 c2 c3 c4 hfa hfb
    go_enter Try.func6, Try.ntmps6
    go_wp2_with fail
    refine (HSu.out a _).mono ?_
    rintro e w1 ⟨va, vo, vp, rfl, hoa, hra, hrp, hk1⟩
    have HNew := hid (HNw.out a C1.out va vo vp w1 hoa hra hrp)
    have K1 := hid hk1
    obtain ⟨pa, ca, rfl⟩ := hoa.1.slice
    obtain ⟨po, co, rfl⟩ := hra.slice
    obtain ⟨pp, cp, rfl⟩ := hrp.slice
    clear hoa hra hrp hk1
    go_wp2_with fail
    refine HNew.out.mono ?_
    rintro e w2 ⟨bx, rfl, ax, hn, hk2⟩
    have M2 : Hid (NMine w w2 bx ax (nM a f)) := ⟨hn.lower K1.out.size, K1.out.trans hk2⟩
    have hEx := eqNegSome ⟨bx, 0, none⟩
    clear hn hk2 K1 HNew
    go_wp2_with fail
    refine (HSu.out b _).mono ?_
    rintro e w3 ⟨va, vo, vp, rfl, hoa, hra, hrp, hk1⟩
    have HNew := hid (HNw.out b C2.out va vo vp w3 hoa hra hrp)
    have K1 := hid hk1
    obtain ⟨pa, ca, rfl⟩ := hoa.1.slice
    obtain ⟨po, co, rfl⟩ := hra.slice
    obtain ⟨pp, cp, rfl⟩ := hrp.slice
    clear hoa hra hrp hk1 HSu HNw
    go_wp2_with fail
    refine HNew.out.mono ?_
    rintro e w4 ⟨bz, rfl, az, hn, hk2⟩
    have P4 : Hid (Pair w w4 bx ax (nM a f) bz az (nM b f)) := Pair.made M2.out hn K1.out.size hn.an_lo (K1.out.trans hk2)
    have hEz := eqNegSome ⟨bz, 0, none⟩
    clear hn hk2 K1 HNew M2
    have HD := hid (ngDo_any 2 w4 P4.out.nx)
    rw [stepM1] at HD
    go_wp2_with fail
    refine HD.out.mono ?_
    rintro e w5 ⟨vo, rfl, S5⟩
    obtain ⟨ax5, p5, c5, rfl, N5⟩ := sent_zero S5
    have P5 := hid (P4.out.left N5)
    clear S5 N5 HD P4
    have HD := hid (ngDo_any 2 w5 P5.out.nz)
    rw [stepM1] at HD
    go_wp2_with fail
    refine HD.out.mono ?_
    rintro e w6 ⟨vo, rfl, S6⟩
    obtain ⟨az6, p6, c6, rfl, N6⟩ := sent_zero S6
    have P6 := hid (P5.out.right N6)
    clear S6 N6 HD P5
    have HD := hid (ngDo_any 0 w6 P6.out.nx)
    rw [stepM2 fa fb a b f] at HD
    go_wp2_with fail
    refine HD.out.mono ?_
    rintro e w7 ⟨vo, rfl, S7⟩
    obtain ⟨ax7, lp, N7, L7, E7⟩ := P6.out.sentL S7
    have P7 := hid (P6.out.left N7)
    have L7 := hid (L7.lower (B := w.heap.size) P6.out.kept.size)
    have E7 := hid E7
    obtain ⟨pp7, cp7, rfl⟩ := L7.out.slice
    clear S7 N7 HD P6
    have HD := hid (ngDo_any 0 w7 P7.out.nz)
    rw [stepM2 fb fa b a f] at HD
    go_wp2_with fail
    refine HD.out.mono ?_
    rintro e w8 ⟨vo, rfl, S8⟩
    obtain ⟨az8, lq, N8, L8, E8⟩ := P7.out.sentR S8
    obtain ⟨pp8, cp8, rfl⟩ := L8.slice
    have M0 : Hid (MeetR w w8 bx bz (ag fa fb a b f 0) (ag fb fa b a f 0) (.slice pp7 lp.length cp7) (.slice pp8 lq.length cp8)) := ⟨_, _, lp, lq, P7.out.right N8, L7.out.right P7.out N8, L8.lower P7.out.kept.size, E7.out, E8⟩
    clear S8 N8 L8 E8 HD P7 L7 E7
    go_wp2_with fail
    go_loopw [13, 11, 12] (fun vi vp vq wr => ∃ i : Nat, i ≤ 10 ∧ vi = .int .i64 (i : Int) ∧ Hid (MeetR w wr bx bz (ag fa fb a b f i) (ag fb fa b a f i) vp vq)) (fun vi _ _ _ => 10 - (intOf vi).toNat)
    case atStart => exact ⟨0, by omega, rfl, M0.out⟩
    case round =>
      obtain ⟨i, hi, rfl, HI⟩ := hrel
      clear M0
      by_cases hlt : i < 10
      · have hltz : (i : Int) < 10 := by omega
        obtain ⟨ax0, az0, lp, lq, hP, hp, hq, ep, eq⟩ := HI.out
        obtain ⟨px, capx, rfl⟩ := hp.slice
        obtain ⟨py, capy, rfl⟩ := hq.slice
        have hlp : lp.length = (ag fa fb a b f i).2.length := by rw [← ep, List.length_map]
        have hlq : lq.length = (ag fb fa b a f i).2.length := by rw [← eq, List.length_map]
        have hbx := HFeX.out i
        have hbz := HFeZ.out i
        have HnX : Hid ((runN (ag fa fb a b f i).1 (ag fb fa b a f i).2).2.length ≤ 1) := by rw [HStX.out i]; exact HFeX.out (i + 1)
        have HnZ : Hid ((runN (ag fb fa b a f i).1 (ag fa fb a b f i).2).2.length ≤ 1) := by rw [HStZ.out i]; exact HFeZ.out (i + 1)
        have HOX := hid (HOkX.out i)
        have HOZ := hid (HOkZ.out i)
        have HNX := hid (HStX.out i)
        have HNZ := hid (HStZ.out i)
        generalize ag fa fb a b f i = X at *
        generalize ag fb fa b a f i = Z at *
        obtain ⟨x, xo⟩ := X
        obtain ⟨z, zo⟩ := Z
        simp only at hP ep eq hlp hlq hbx hbz HnX HnZ HOX HOZ HNX HNZ
        have I1 : Hid (MeetK w wr bz z xo bx ax0 x (.slice px lp.length capx) (.slice py lq.length capy) (.slice none 0 0) lp lq [] wr.heap.size 0 (.slice none 0 0)) := ⟨az0, [], (Meet.of hP hp hq (Pks.nil _ _ _)).swap, rfl⟩
        have hbp : lp.length ≤ 1 := by omega
        have hbq : lq.length ≤ 1 := by omega
        have Hlp := hid hlp
        have Hlq := hid hlq
        have Hbx := hid hbx
        have Hbz := hid hbz
        have Ep := hid ep
        have Eq := hid eq
        clear hP hp hq ep eq HI hlp hlq hbx hbz
        go_wp2_with fail
        obtain ⟨B, hB⟩ : ∃ B, B = wr.heap.size := ⟨_, rfl⟩
        rw [← hB] at I1
        clear hB
        go_loopw [16, 14] (fun vk vu wq => ∃ k : Nat, k ≤ lp.length ∧ vk = .int .i64 (k : Int) ∧ Hid (MeetK w wq bz z xo bx ax0 x (.slice px lp.length capx) (.slice py lq.length capy) (.slice none 0 0) lp lq [] B k vu)) (fun vk _ _ => lp.length - (intOf vk).toNat)
        case atStart => exact ⟨0, Nat.zero_le _, rfl, I1.out⟩
        case round =>
          obtain ⟨k, hk, rfl, HJ⟩ := hrel
          clear I1
          by_cases hklt : k < lp.length
          · have hkz : (k : Int) < (lp.length : Int) := by omega
            obtain ⟨q, hq1, hq2⟩ := map_at Ep.out (j := k) (by have := Hlp.out; omega)
            have HH := hid (HJ.out.hears (Or.inl (List.mem_of_getElem? hq1)) hq2 HOZ.out Hbx.out HnZ.out)
            obtain ⟨ay, lv, hM, _⟩ := HJ.out
            obtain ⟨g, rfl, hcap, q0, q1, q2, q3⟩ := hM.p.at hq1
            obtain ⟨po2, co2, e2⟩ := slice_of (hM.p.opts q (List.mem_of_getElem? hq1))
            rw [e2] at q2 HH
            clear hM hq1 hq2 e2 HJ
            go_wp2_with fail
            refine HH.out.mono ?_
            rintro e w9 ⟨po, co, v', W', no, rfl, happ, hin⟩
            have R := hid hin
            unfold AppP at happ
            clear hin HH q0 q1 q2 q3
            go_wp2_with (at_builtin; refine Lib.wpList_append_run _ rfl _ _ _ _ rfl _ _ rfl rfl _ _ (happ _) ?_)
            exact ⟨⟨k + 1, hklt, by go_num, R.out⟩, by simp [intOf]; omega⟩
          · obtain rfl : k = lp.length := by omega
            have hkz : ¬ (lp.length : Int) < (lp.length : Int) := by omega
            obtain ⟨az1, lu, hM, eu⟩ := HJ.out
            have h9 : xo.take lp.length = xo := by rw [Hlp.out, List.take_length]
            rw [h9] at hM eu
            clear h9
            rw [HNZ.out] at hM eu
            obtain ⟨pu, cu, rfl⟩ := hM.v.slice
            have I2 : Hid (MeetK w wr bx x zo bz az1 (ag fb fa b a f (i + 1)).1 (.slice px lp.length capx) (.slice py lq.length capy) (.slice pu lu.length cu) lp lq lu wr.heap.size 0 (.slice none 0 0)) := ⟨ax0, [], Meet.of hM.pair.swap hM.p.swap hM.q.swap (hM.v.lower hM.bw).swap, rfl⟩
            have Eu := hid eu
            clear hM eu HJ
            go_wp2_with fail
            obtain ⟨B2, hB2⟩ : ∃ B2, B2 = wr.heap.size := ⟨_, rfl⟩
            rw [← hB2] at I2
            clear hB2
            go_loopw [17, 15] (fun vk vv wq => ∃ k : Nat, k ≤ lq.length ∧ vk = .int .i64 (k : Int) ∧ Hid (MeetK w wq bx x zo bz az1 (ag fb fa b a f (i + 1)).1 (.slice px lp.length capx) (.slice py lq.length capy) (.slice pu lu.length cu) lp lq lu B2 k vv)) (fun vk _ _ => lq.length - (intOf vk).toNat)
            case atStart => exact ⟨0, Nat.zero_le _, rfl, I2.out⟩
            case round =>
              obtain ⟨k, hk, rfl, HJ⟩ := hrel
              clear I2
              by_cases hklt : k < lq.length
              · have hkz : (k : Int) < (lq.length : Int) := by omega
                obtain ⟨q, hq1, hq2⟩ := map_at Eq.out (j := k) (by have := Hlq.out; omega)
                have HH := hid (HJ.out.hears (Or.inr (List.mem_of_getElem? hq1)) hq2 HOX.out Hbz.out HnX.out)
                obtain ⟨ay, lv, hM, _⟩ := HJ.out
                obtain ⟨g, rfl, hcap, q0, q1, q2, q3⟩ := hM.q.at hq1
                obtain ⟨po2, co2, e2⟩ := slice_of (hM.q.opts q (List.mem_of_getElem? hq1))
                rw [e2] at q2 HH
                clear hM hq1 hq2 e2 HJ
                go_wp2_with fail
                refine HH.out.mono ?_
                rintro e w9 ⟨po, co, v', W', no, rfl, happ, hin⟩
                have R := hid hin
                unfold AppP at happ
                clear hin HH q0 q1 q2 q3
                go_wp2_with (at_builtin; refine Lib.wpList_append_run _ rfl _ _ _ _ rfl _ _ rfl rfl _ _ (happ _) ?_)
                exact ⟨⟨k + 1, hklt, by go_num, R.out⟩, by simp [intOf]; omega⟩
              · obtain rfl : k = lq.length := by omega
                have hkz : ¬ (lq.length : Int) < (lq.length : Int) := by omega
                obtain ⟨ax1, lv, hM, ev⟩ := HJ.out
                have h9 : zo.take lq.length = zo := by rw [Hlq.out, List.take_length]
                rw [h9] at hM ev
                clear h9
                rw [HNX.out] at hM ev
                obtain ⟨pt, ct, rfl⟩ := hM.v.slice
                have R : Hid (MeetR w wr bx bz (ag fa fb a b f (i + 1)) (ag fb fa b a f (i + 1)) (.slice pt lv.length ct) (.slice pu lu.length cu)) := ⟨ax1, az1, lv, lu, hM.pair, hM.v.lower hM.bw, hM.u, ev, Eu.out⟩
                clear hM ev HJ
                go_wp2
                exact ⟨⟨i + 1, hlt, by go_num, R.out⟩, by simp [intOf]; omega⟩
      · obtain rfl : i = 10 := by omega
        have hltz : ¬ ((10 : Nat) : Int) < 10 := by omega
        obtain ⟨ax1, az1, lp, lq, hP, _, _, _, _⟩ := HI.out
        have HP := hid hP
        obtain ⟨s1, m1, t1⟩ := HEnX.out
        obtain ⟨s2, m2, t2⟩ := HEnZ.out
        have HSx := hid (ngState_any wr hP.nx)
        have HSz := hid (ngState_any wr hP.nz)
        have HMx := hid (fun W (k : Kept (fun _ => False) wr W) => ngMine_any W (hP.nx.kept0 k))
        have HMz := hid (fun W (k : Kept (fun _ => False) wr W) => ngMine_any W (hP.nz.kept0 k))
        have HTx := hid (fun W (k : Kept (fun _ => False) wr W) => ngTheirs_any W (hP.nx.kept0 k))
        have HTz := hid (fun W (k : Kept (fun _ => False) wr W) => ngTheirs_any W (hP.nz.kept0 k))
        rw [s1] at HSx
        rw [s2] at HSz
        rw [m1] at HMx
        rw [m2] at HMz
        rw [t1] at HTx
        rw [t2] at HTz
        have HK := hid hP.kept
        clear hP HI s1 m1 t1 s2 m2 t2 HEnX HEnZ HP HStX HStZ HOkX HOkZ HFeX HFeZ
        generalize endB fa a = A1 at *
        generalize endB fb b = B1 at *
        go_wp2_with (first | (refine HSx.out.mono ?_; rintro e w' ⟨rfl, hw⟩; rw [hw]; clear hw w' HSx) | (refine HSz.out.mono ?_; rintro e w' ⟨rfl, hw⟩; rw [hw]; clear hw w' HSz))
        refine (HMx.out wr (Kept.refl _ _)).mono ?_
        rintro e y1 ⟨u1, rfl, o1, k1⟩
        obtain ⟨p1, d1, rfl⟩ := slice_of o1
        have O1 := hid o1
        have K1 := hid k1
        clear o1 k1
        go_wp2_with fail
        refine (HTz.out y1 K1.out).mono ?_
        rintro e y2 ⟨u2, rfl, o2, k2⟩
        obtain ⟨p2, d2, rfl⟩ := slice_of o2
        have HE := hid (sameO_any _ _ _ _ y2 (O1.out.kept k2).tags o2.tags (by simp))
        rw [sameF_self] at HE
        have K2 := hid (K1.out.trans k2)
        clear o2 k2 O1 K1
        go_wp2_with fail
        refine HE.out.mono ?_
        rintro e y3 ⟨rfl, k3⟩
        have K3 := hid (K2.out.trans k3)
        clear k3 K2 HE
        go_wp2_with fail
        refine (HMz.out y3 K3.out).mono ?_
        rintro e y4 ⟨u1, rfl, o1, k1⟩
        obtain ⟨p1, d1, rfl⟩ := slice_of o1
        have O1 := hid o1
        have K4 := hid (K3.out.trans k1)
        clear o1 k1 K3
        go_wp2_with fail
        refine (HTx.out y4 K4.out).mono ?_
        rintro e y5 ⟨u2, rfl, o2, k2⟩
        obtain ⟨p2, d2, rfl⟩ := slice_of o2
        have HE := hid (sameO_any _ _ _ _ y5 (O1.out.kept k2).tags o2.tags (by simp))
        rw [sameF_self] at HE
        have K5 := hid (K4.out.trans k2)
        clear o2 k2 O1 K4
        go_wp2_with fail
        refine HE.out.mono ?_
        rintro e y6 ⟨rfl, k3⟩
        have K6 := hid (K5.out.trans k3)
        clear k3 K5 HE
        go_wp2_with fail
        refine (HMx.out y6 K6.out).mono ?_
        rintro e y7 ⟨u1, rfl, o1, k1⟩
        obtain ⟨p1, d1, rfl⟩ := slice_of o1
        have O1 := hid o1
        have K67 := hid k1
        have K7 := hid (K6.out.trans k1)
        clear o1 k1
        go_wp2_with fail
        refine (HMz.out y7 K7.out).mono ?_
        rintro e y8 ⟨u2, rfl, o2, k2⟩
        obtain ⟨p2, d2, rfl⟩ := slice_of o2
        obtain ⟨v', y9, hr, ho, hk9⟩ := appendO_run (K67.out.trans k2) (O1.out.kept k2) o2.tags (by simp)
        have K9 := hid (K6.out.trans hk9)
        have O9 : Hid (OwnO y9 y6.heap.size v' [⟨1, A1⟩, ⟨1, B1⟩]) := ho
        obtain ⟨p9, c9, hv9⟩ := slice_of O9.out
        have hv9 : v' = .slice p9 2 c9 := hv9
        subst hv9
        have HT9 := hid (fun W (k : Kept (fun _ => False) y9 W) => (O9.out.kept k).tags)
        have HRu := hid lawRule_any
        have HFi : Hid (∀ (x : Tg) (W : World), x ∈ [(⟨1, A1⟩ : Tg), ⟨1, B1⟩] → Calls Try.prog 23 #[rlV rule1, .string x.value] W fun e w' => e = .returned (.bool true) ∧ Kept (fun _ => False) W w') := by
          intro x W hx
          simp only [List.mem_cons, List.not_mem_nil, or_false] at hx
          rcases hx with rfl | rfl
          · have := fits_any rule1 A1 HSzA.out W
            rw [HFiA.out] at this
            exact this
          · have := fits_any rule1 B1 HSzB.out W
            rw [HFiB.out] at this
            exact this
        unfold rlV rule1 at HRu HFi
        simp only at HRu HFi
        unfold AppO at hr
        clear o2 k2 O1 K67 K7 hk9 ho HMx HMz HTx HTz O9 HFiA HFiB HSzA HSzB
        go_wp2_with (at_builtin; refine Lib.wpList_append_run _ rfl _ _ _ _ rfl _ _ rfl rfl _ _ (hr _) ?_)
        clear hr
        go_loopw [19] (fun vi wq => ∃ j : Nat, j ≤ 2 ∧ vi = .int .i64 (j : Int) ∧ Hid (Kept (fun _ => False) y9 wq)) (fun vi _ => 2 - (intOf vi).toNat)
        case atStart => exact ⟨0, by omega, rfl, Kept.refl _ _⟩
        case round =>
          obtain ⟨j, hj, rfl, HJ⟩ := hrel
          by_cases hjlt : j < 2
          · have hjz : (j : Int) < 2 := by omega
            obtain ⟨x, hx⟩ : ∃ x, [(⟨1, A1⟩ : Tg), ⟨1, B1⟩][j]? = some x := ⟨[(⟨1, A1⟩ : Tg), ⟨1, B1⟩][j]'(by simpa using hjlt), by simp [hjlt]⟩
            obtain ⟨g, o, rfl, hcap, _, c1⟩ := (HT9.out _ HJ.out).at hx
            have HF := hid (fun W => HFi.out x W (List.mem_of_getElem? hx))
            clear hx
            go_wp2_with fail
            go_region_with (first
              | (go_at_call 24; refine (HRu.out _).mono ?_; rintro e y10 ⟨rfl, hk10⟩; have c1' := (hk10.cell (p := ⟨g, o + j * 2 + 1, none⟩) (lt_of_cell c1) id).trans c1; have K10 := hid (HJ.out.trans ((Kept.refl _ _).drew.trans hk10)); clear hk10)
              | (go_at_call 23; refine (HF.out _).mono ?_; rintro e y11 ⟨rfl, hk11⟩; have K11 := hid (K10.out.trans hk11); clear hk11))
            all_goals
              go_wp2
              exact ⟨⟨j + 1, hjlt, by go_num, K11.out⟩, by simp [intOf]; omega⟩
          · obtain rfl : j = 2 := by omega
            have hjz : ¬ ((2 : Nat) : Int) < 2 := by omega
            have KW := hid ((HK.out.trans K9.out).trans HJ.out)
            clear HJ
            go_wp2_with fail
            refine (Ha.out _).mono ?_
            rintro e y12 ⟨rfl, hk12⟩
            have KF := hid (KW.out.trans hk12)
            clear hk12
            go_wp2
            go_ret
            exact ⟨rfl, below_of KF.out⟩
  · by_cases y1 : a.size = 2
    · have z1 : ((a.size : Int) != 2) = false := by simp [y1]
      by_cases y2 : b.size = 2
      · have z2 : ((b.size : Int) != 2) = false := by simp [y2]
        by_cases z3 : f < 2
        · clear hok y1 y2
          go_enter Try.func6, Try.ntmps6
          go_wp2_with fail
          refine (Ha.out _).mono ?_
          rintro e w2 ⟨rfl, hk2⟩
          go_wp2
          go_ret
          exact ⟨rfl, below_of hk2⟩
        · have z4 : 10 < f := by omega
          clear hok y1 y2
          go_enter Try.func6, Try.ntmps6
          go_wp2_with fail
          refine (Ha.out _).mono ?_
          rintro e w2 ⟨rfl, hk2⟩
          go_wp2
          go_ret
          exact ⟨rfl, below_of hk2⟩
      · have z2 : ((b.size : Int) != 2) = true := by simp; omega
        clear hok y1 y2
        go_enter Try.func6, Try.ntmps6
        go_wp2_with fail
        refine (Ha.out _).mono ?_
        rintro e w2 ⟨rfl, hk2⟩
        go_wp2
        go_ret
        exact ⟨rfl, below_of hk2⟩
    · have z1 : ((a.size : Int) != 2) = true := by simp; omega
      clear hok y1
      go_enter Try.func6, Try.ntmps6
      go_wp2_with fail
      refine (Ha.out _).mono ?_
      rintro e w2 ⟨rfl, hk2⟩
      go_wp2
      go_ret
      exact ⟨rfl, below_of hk2⟩
end Go.Proofs.Ytodgkmjiiijfpaa
