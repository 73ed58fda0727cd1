/- The walk of IpcpMeets. -/
import Derived.Test.YtcmdfcdmfdheeaaMeIn
import Derived.Test.YtcmdfcdmfdheeaaIpIn
import Derived.Test.YtcmdfcdmfdheeaaFoIn
namespace Go.Proofs.Ytcmdfcdmfdheeaa
open Go.RowKit

theorem wpList_eql_wanted {P : Program} {ops : Array Oper} {rest : List Oper} {o : Oper} {a : Act} {t t' : TypeId} {x y : Nat} {A A' : Array Value} {B : Bool} {w : World} {Q : Exit → Act → World → Prop} (hw : Region.wanted o (yielded ops a.tmps) = true) (hm : P.eqGuardType P.depth t = false) (ho : o.op = Op.binOp .eql t (.tmp x) (.tmp y) t') (hx : a.eval (.tmp x) = .agg A) (hy : a.eval (.tmp y) = .agg A') (h : (Op.equalIn 10000 t (.agg A) (.agg A')).run P w = .ok B w) (hk : wpList P ops Q rest (a.put o.dst (.bool B)) w) : wpList P ops Q (o :: rest) a w := by
  unfold wpList
  rw [if_pos hw]
  exact .inl (wp_eql hm ho hx hy h hk)

theorem okS {own peer d e : Ad} {dns : Bool} {F Z R : List Tg} (K : Kase own peer d e dns F Z R) (L : Bool) (i : Nat) : OkL [] (agS own peer d e F R L i).1 (agC own dns F Z L i).2 := fun j p hj => by
  have hlt := (List.getElem?_eq_some_iff.1 hj).1
  have hf := agC_few (own := own) (dns := dns) (F := F) (Z := Z) L i
  obtain rfl : j = 0 := by omega
  obtain ⟨h1, h2⟩ := agC_fine K L i p (List.mem_of_getElem? hj)
  exact ⟨by show ShortR (agS own peer d e F R L i).1.peer; rw [agS_peer]; exact gives_short _ _ _, h1, by rw [h2]; decide⟩
theorem okC {own peer d e : Ad} {dns : Bool} {F Z R : List Tg} (K : Kase own peer d e dns F Z R) (L : Bool) (i : Nat) : OkL [3] (agC own dns F Z L i).1 (agS own peer d e F R L i).2 := fun j p hj => by
  have hlt := (List.getElem?_eq_some_iff.1 hj).1
  have hf := agS_few (own := own) (peer := peer) (d := d) (e := e) (F := F) (R := R) L i
  obtain rfl : j = 0 := by omega
  obtain ⟨h1, h2⟩ := agS_fine K L i p (List.mem_of_getElem? hj)
  exact ⟨by show ShortR (agC own dns F Z L i).1.peer; rw [agC_peer]; exact client_short, h1, by rw [h2]; decide⟩

theorem stepC1 (dns : Bool) : doN (bC dns) 2 = ({ bC dns with au := ⟨10, 2, 1, 0⟩ }, []) := by cases dns <;> kernel_rfl
theorem stepC2 (own : Ad) (dns : Bool) (F Z : List Tg) (L : Bool) : doN { bC dns with au := ⟨10, 2, 1, 0⟩ } 0 = agC own dns F Z L 0 := by cases dns <;> kernel_rfl
theorem stepV1 (own peer d e : Ad) : doN (bS own peer d e) 2 = ({ bS own peer d e with au := ⟨10, 2, 1, 0⟩ }, []) := by kernel_rfl
theorem stepV2 (own peer d e : Ad) (F R : List Tg) (L : Bool) : doN { bS own peer d e with au := ⟨10, 2, 1, 0⟩ } 0 = agS own peer d e F R L 0 := by kernel_rfl

set_option maxHeartbeats 32000000 in
set_option maxRecDepth 100000 in
theorem ipcpMeets_walk (own peer d e : Ad) (dns : Bool) (w : World) :
    Calls Try.prog 4 #[adV own, adV peer, adV d, adV e, .bool dns] w fun r w' => r = .returned (.bool true) ∧ Below w.heap.size w w' := by
  have HAl := hid lawAlive_any
  have HSv := hid (server_any own peer d e 10 2 10 3 ⟨by decide, by decide⟩ ⟨by decide, by decide⟩ ⟨by decide, by decide⟩ ⟨by decide, by decide⟩)
  have HCl := hid (client_any dns 10 2 10 3 ⟨by decide, by decide⟩ ⟨by decide, by decide⟩ ⟨by decide, by decide⟩ ⟨by decide, by decide⟩)
  have HEp := hid (ad_eq peer ad0)
  rw [show decide (numAd peer = numAd ad0) = noB peer from rfl, show adV ad0 = .agg #[.int .u8 0, .int .u8 0, .int .u8 0, .int .u8 0] from rfl] at HEp
  have S0 := SvK.new w own peer d e
  have k0 := ((((Kept.refl (fun _ => False) w).alloc (.cells #[.int .u8 (own.a.toNat : Int), .int .u8 (own.b.toNat : Int), .int .u8 (own.c.toNat : Int), .int .u8 (own.d.toNat : Int)] 24)).alloc (.cells #[.int .u8 (peer.a.toNat : Int), .int .u8 (peer.b.toNat : Int), .int .u8 (peer.c.toNat : Int), .int .u8 (peer.d.toNat : Int)] 24)).alloc (.cells #[.int .u8 (d.a.toNat : Int), .int .u8 (d.b.toNat : Int), .int .u8 (d.c.toNat : Int), .int .u8 (d.d.toNat : Int)] 24)).alloc (.cells #[.int .u8 (e.a.toNat : Int), .int .u8 (e.b.toNat : Int), .int .u8 (e.c.toNat : Int), .int .u8 (e.d.toNat : Int)] 24)
  unfold adV at HSv HEp ⊢
  generalize hAe : ((((w.alloc (.cells #[.int .u8 (own.a.toNat : Int), .int .u8 (own.b.toNat : Int), .int .u8 (own.c.toNat : Int), .int .u8 (own.d.toNat : Int)] 24)).alloc (.cells #[.int .u8 (peer.a.toNat : Int), .int .u8 (peer.b.toNat : Int), .int .u8 (peer.c.toNat : Int), .int .u8 (peer.d.toNat : Int)] 24)).alloc (.cells #[.int .u8 (d.a.toNat : Int), .int .u8 (d.b.toNat : Int), .int .u8 (d.c.toNat : Int), .int .u8 (d.d.toNat : Int)] 24)).alloc (.cells #[.int .u8 (e.a.toNat : Int), .int .u8 (e.b.toNat : Int), .int .u8 (e.c.toNat : Int), .int .u8 (e.d.toNat : Int)] 24)) = A4 at *
  have HAe := hid hAe
  have k1 := (Kept.refl (fun _ => False) A4).alloc (.cells #[.int .u8 0, .int .u8 0, .int .u8 0, .int .u8 0] 24)
  have HS := hid (S0.kept k1)
  have HZ := hid (four4_new A4 24 (.int .u8 0) (.int .u8 0) (.int .u8 0) (.int .u8 0))
  have KW := hid (k0.trans k1)
  obtain ⟨gz, hgz⟩ : ∃ gz, gz = A4.heap.size := ⟨_, rfl⟩
  obtain ⟨⟨⟨o0, o1, o2, o3⟩, _⟩, ⟨⟨p0, p1, p2, p3⟩, _⟩, ⟨⟨d0, d1, d2, d3⟩, _⟩, ⟨⟨e0, e1, e2, e3⟩, _⟩⟩ := HS.out
  obtain ⟨⟨z0, z1, z2, z3⟩, _⟩ := HZ.out
  clear hAe k0 k1 S0
  go_enter Try.func4, Try.ntmps4
  go_upto_region 1 with fail
  rw [HAe.out]
  clear HAe
  go_upto_region 2 with fail
  generalize A4.alloc (.cells #[.int .u8 0, .int .u8 0, .int .u8 0, .int .u8 0] 24) = A at *
  rw [← hgz] at HZ z0 z1 z2 z3 ⊢
  clear hgz
  cases hp : noB peer with
  | true =>
    rw [hp] at HEp
    iterate 8 go_step
    refine wp_eql (by kernel_rfl) rfl (by rfl) (by rfl) (HEp.out _) ?_
    clear HEp
    go_wp2_with fail
    refine (HAl.out _).mono ?_
    rintro r w1 ⟨rfl, hk1⟩
    have KF := hid (KW.out.trans hk1)
    clear hk1
    go_wp2
    go_ret
    exact ⟨rfl, KF.out.below (Nat.le_refl _) (fun _ h => h.elim)⟩
  | false =>
    rw [hp] at HEp
    iterate 8 go_step
    refine wp_eql (by kernel_rfl) rfl (by rfl) (by rfl) (HEp.out _) ?_
    clear HEp
    obtain ⟨F, Z, R, K, E⟩ := kase_any own peer d e dns hp
    obtain ⟨L, hL⟩ : ∃ L, L = decide (R ≠ []) := ⟨_, rfl⟩
    have HStX := hid (agS_step K L hL)
    have HStZ := hid (agC_step K L hL)
    have HOkX := hid (okS K L)
    have HOkZ := hid (okC K L)
    have HFeX := hid (agS_few (own := own) (peer := peer) (d := d) (e := e) (F := F) (R := R) L)
    have HFeZ := hid (agC_few (own := own) (dns := dns) (F := F) (Z := Z) L)
    have HE := hid E
    have HfF := hid K.fF
    clear hL K E hp
    go_wp2_with fail
    refine (HSv.out _).mono ?_
    rintro r w2 ⟨bx, rfl, ax, hn, hm, hk2⟩
    have M2 : Hid (NMine A w2 bx ax (bS own peer d e)) := ⟨hn, hk2⟩
    have MX := hid hm
    have hEx := eqNegSome ⟨bx, 0, none⟩
    clear hn hm hk2 HSv o0 o1 o2 o3 p0 p1 p2 p3 d0 d1 d2 d3 e0 e1 e2 e3 z0 z1 z2 z3
    go_wp2_with fail
    refine (HCl.out _).mono ?_
    rintro r w4 ⟨bz, rfl, az, hn, hm, hk4⟩
    have P4 : Hid (Pair A w4 bx ax (bS own peer d e) bz az (bC dns)) := Pair.made M2.out hn (Nat.le_refl _) hn.an_lo hk4
    have MZ := hid hm
    have MX := hid (MX.out.kept0 hk4)
    have hEz := eqNegSome ⟨bz, 0, none⟩
    clear hn hm hk4 HCl M2
    have HD := hid (ngDo_any 2 w4 P4.out.nx)
    rw [stepV1] at HD
    go_wp2_with fail
    refine HD.out.mono ?_
    rintro r w5 ⟨vo, rfl, S5⟩
    obtain ⟨ax5, p5, c5, rfl, N5⟩ := sent_zero S5
    have P5 := hid (P4.out.left N5)
    have MX := hid (MX.out.step P4.out.nx N5)
    have MZ := hid (MZ.out.other P4.out.nx N5)
    clear S5 N5 HD P4
    have HD := hid (ngDo_any 2 w5 P5.out.nz)
    rw [stepC1] at HD
    go_wp2_with fail
    refine HD.out.mono ?_
    rintro r w6 ⟨vo, rfl, S6⟩
    obtain ⟨az6, p6, c6, rfl, N6⟩ := sent_zero S6
    have P6 := hid (P5.out.right N6)
    have MX := hid (MX.out.other P5.out.nz N6)
    have MZ := hid (MZ.out.step P5.out.nz N6)
    clear S6 N6 HD P5
    have HD := hid (ngDo_any 0 w6 P6.out.nx)
    rw [stepV2 own peer d e F R L] at HD
    go_wp2_with fail
    refine HD.out.mono ?_
    rintro r w7 ⟨vo, rfl, S7⟩
    obtain ⟨ax7, lp, N7, L7, E7⟩ := P6.out.sentL S7
    have P7 := hid (P6.out.left N7)
    have L7 := hid (L7.lower (B := A.heap.size) P6.out.kept.size)
    have E7 := hid E7
    have MX := hid (MX.out.step P6.out.nx N7)
    have MZ := hid (MZ.out.other P6.out.nx N7)
    obtain ⟨pp7, cp7, rfl⟩ := L7.out.slice
    clear S7 N7 HD P6
    have HD := hid (ngDo_any 0 w7 P7.out.nz)
    rw [stepC2 own dns F Z L] at HD
    go_wp2_with fail
    refine HD.out.mono ?_
    rintro r w8 ⟨vo, rfl, S8⟩
    obtain ⟨az8, lq, N8, L8, E8⟩ := P7.out.sentR S8
    obtain ⟨pp8, cp8, rfl⟩ := L8.slice
    have M0 : Hid (MeetR [] [3] A w8 bx bz (agS own peer d e F R L 0) (agC own dns F Z L 0) (.slice pp7 lp.length cp7) (.slice pp8 lq.length cp8)) := ⟨_, _, lp, lq, P7.out.right N8, L7.out.right P7.out N8, L8.lower P7.out.kept.size, E7.out, E8, MX.out.other P7.out.nz N8, MZ.out.step P7.out.nz N8⟩
    clear S8 N8 L8 E8 HD P7 L7 E7 MX MZ hEx hEz
    go_wp2_with fail
    go_loopw [18, 16, 17] (fun vi vp vq wr => ∃ i : Nat, i ≤ 12 ∧ vi = .int .i64 (i : Int) ∧ Hid (MeetR [] [3] A wr bx bz (agS own peer d e F R L i) (agC own dns F Z L i) vp vq)) (fun vi _ _ _ => 12 - (intOf vi).toNat)
    case atStart => exact ⟨0, by omega, rfl, M0.out⟩
    case round =>
      obtain ⟨i, hi, rfl, HI⟩ := hrel
      clear M0
      by_cases hlt : i < 12
      · have hltz : (i : Int) < 12 := by omega
        obtain ⟨ax0, az0, lp, lq, hP, hp, hq, ep, eq, hmx, hmz⟩ := HI.out
        obtain ⟨px, capx, rfl⟩ := hp.slice
        obtain ⟨py, capy, rfl⟩ := hq.slice
        have hlp : lp.length = (agS own peer d e F R L i).2.length := by rw [← ep, List.length_map]
        have hlq : lq.length = (agC own dns F Z L i).2.length := by rw [← eq, List.length_map]
        have hbx := HFeX.out i
        have hbz := HFeZ.out i
        have HnX : Hid ((runN [] (agS own peer d e F R L i).1 (agC own dns F Z L i).2).2.length ≤ 1) := by rw [HStX.out i]; exact HFeX.out (i + 1)
        have HnZ : Hid ((runN [3] (agC own dns F Z L i).1 (agS own peer d e F R L i).2).2.length ≤ 1) := by rw [HStZ.out i]; exact HFeZ.out (i + 1)
        have HOX := hid (HOkX.out i)
        have HOZ := hid (HOkZ.out i)
        have HNX := hid (HStX.out i)
        have HNZ := hid (HStZ.out i)
        generalize agS own peer d e F R L i = X at *
        generalize agC own dns F Z L i = ZZ at *
        obtain ⟨x, xo⟩ := X
        obtain ⟨z, zo⟩ := ZZ
        simp only at hP ep eq hlp hlq hbx hbz HnX HnZ HOX HOZ HNX HNZ
        have I1 : Hid (MeetK [3] [] A wr bz z xo bx ax0 x (.slice px lp.length capx) (.slice py lq.length capy) (.slice none 0 0) lp lq [] wr.heap.size 0 (.slice none 0 0)) := ⟨az0, [], (Meet.of hP hp hq (Pks.nil _ _ _) hmx hmz).swap, rfl⟩
        have hbp : lp.length ≤ 1 := by omega
        have hbq : lq.length ≤ 1 := by omega
        have Hlp := hid hlp
        have Hlq := hid hlq
        have Hbx := hid hbx
        have Hbz := hid hbz
        have Ep := hid ep
        have Eq := hid eq
        clear hP hp hq ep eq hmx hmz HI hlp hlq hbx hbz
        go_wp2_with fail
        obtain ⟨B, hB⟩ : ∃ B, B = wr.heap.size := ⟨_, rfl⟩
        rw [← hB] at I1
        clear hB
        go_loopw [21, 19] (fun vk vu wq => ∃ k : Nat, k ≤ lp.length ∧ vk = .int .i64 (k : Int) ∧ Hid (MeetK [3] [] A wq bz z xo bx ax0 x (.slice px lp.length capx) (.slice py lq.length capy) (.slice none 0 0) lp lq [] B k vu)) (fun vk _ _ => lp.length - (intOf vk).toNat)
        case atStart => exact ⟨0, Nat.zero_le _, rfl, I1.out⟩
        case round =>
          obtain ⟨k, hk, rfl, HJ⟩ := hrel
          clear I1
          by_cases hklt : k < lp.length
          · have hkz : (k : Int) < (lp.length : Int) := by omega
            obtain ⟨q, hq1, hq2⟩ := map_at Ep.out (j := k) (by have := Hlp.out; omega)
            have HH := hid (HJ.out.hears (Or.inl (List.mem_of_getElem? hq1)) hq2 HOZ.out Hbx.out HnZ.out)
            obtain ⟨ay, lv, hM, _⟩ := HJ.out
            obtain ⟨g, rfl, hcap, q0, q1, q2, q3⟩ := hM.p.at hq1
            obtain ⟨po2, co2, e2⟩ := slice_of (hM.p.opts q (List.mem_of_getElem? hq1))
            rw [e2] at q2 HH
            clear hM hq1 hq2 e2 HJ
            go_wp2_with fail
            refine HH.out.mono ?_
            rintro e w9 ⟨po, co, v', W', no, rfl, happ, hin⟩
            have R := hid hin
            unfold AppP at happ
            clear hin HH q0 q1 q2 q3
            go_wp2_with (at_builtin; refine Lib.wpList_append_run _ rfl _ _ _ _ rfl _ _ rfl rfl _ _ (happ _) ?_)
            exact ⟨⟨k + 1, hklt, by go_num, R.out⟩, by simp [intOf]; omega⟩
          · obtain rfl : k = lp.length := by omega
            have hkz : ¬ (lp.length : Int) < (lp.length : Int) := by omega
            obtain ⟨az1, lu, hM, eu⟩ := HJ.out
            have h9 : xo.take lp.length = xo := by rw [Hlp.out, List.take_length]
            rw [h9] at hM eu
            clear h9
            rw [HNZ.out] at hM eu
            obtain ⟨pu, cu, rfl⟩ := hM.v.slice
            have I2 : Hid (MeetK [] [3] A wr bx x zo bz az1 (agC own dns F Z L (i + 1)).1 (.slice px lp.length capx) (.slice py lq.length capy) (.slice pu lu.length cu) lp lq lu wr.heap.size 0 (.slice none 0 0)) := ⟨ax0, [], Meet.of hM.pair.swap hM.p.swap hM.q.swap (hM.v.lower hM.bw).swap hM.mz hM.mx, rfl⟩
            have Eu := hid eu
            clear hM eu HJ
            go_wp2_with fail
            obtain ⟨B2, hB2⟩ : ∃ B2, B2 = wr.heap.size := ⟨_, rfl⟩
            rw [← hB2] at I2
            clear hB2
            go_loopw [22, 20] (fun vk vv wq => ∃ k : Nat, k ≤ lq.length ∧ vk = .int .i64 (k : Int) ∧ Hid (MeetK [] [3] A wq bx x zo bz az1 (agC own dns F Z L (i + 1)).1 (.slice px lp.length capx) (.slice py lq.length capy) (.slice pu lu.length cu) lp lq lu B2 k vv)) (fun vk _ _ => lq.length - (intOf vk).toNat)
            case atStart => exact ⟨0, Nat.zero_le _, rfl, I2.out⟩
            case round =>
              obtain ⟨k, hk, rfl, HJ⟩ := hrel
              clear I2
              by_cases hklt : k < lq.length
              · have hkz : (k : Int) < (lq.length : Int) := by omega
                obtain ⟨q, hq1, hq2⟩ := map_at Eq.out (j := k) (by have := Hlq.out; omega)
                have HH := hid (HJ.out.hears (Or.inr (List.mem_of_getElem? hq1)) hq2 HOX.out Hbz.out HnX.out)
                obtain ⟨ay, lv, hM, _⟩ := HJ.out
                obtain ⟨g, rfl, hcap, q0, q1, q2, q3⟩ := hM.q.at hq1
                obtain ⟨po2, co2, e2⟩ := slice_of (hM.q.opts q (List.mem_of_getElem? hq1))
                rw [e2] at q2 HH
                clear hM hq1 hq2 e2 HJ
                go_wp2_with fail
                refine HH.out.mono ?_
                rintro e w9 ⟨po, co, v', W', no, rfl, happ, hin⟩
                have R := hid hin
                unfold AppP at happ
                clear hin HH q0 q1 q2 q3
                go_wp2_with (at_builtin; refine Lib.wpList_append_run _ rfl _ _ _ _ rfl _ _ rfl rfl _ _ (happ _) ?_)
                exact ⟨⟨k + 1, hklt, by go_num, R.out⟩, by simp [intOf]; omega⟩
              · obtain rfl : k = lq.length := by omega
                have hkz : ¬ (lq.length : Int) < (lq.length : Int) := by omega
                obtain ⟨ax1, lv, hM, ev⟩ := HJ.out
                have h9 : zo.take lq.length = zo := by rw [Hlq.out, List.take_length]
                rw [h9] at hM ev
                clear h9
                rw [HNX.out] at hM ev
                obtain ⟨pt, ct, rfl⟩ := hM.v.slice
                have R : Hid (MeetR [] [3] A wr bx bz (agS own peer d e F R L (i + 1)) (agC own dns F Z L (i + 1)) (.slice pt lv.length ct) (.slice pu lu.length cu)) := ⟨ax1, az1, lv, lu, hM.pair, hM.v.lower hM.bw, hM.u, ev, Eu.out, hM.mx, hM.mz⟩
                clear hM ev HJ
                go_wp2
                exact ⟨⟨i + 1, hlt, by go_num, R.out⟩, by simp [intOf]; omega⟩
      · obtain rfl : i = 12 := by omega
        have hltz : ¬ ((12 : Nat) : Int) < 12 := by omega
        obtain ⟨ax1, az1, lp, lq, hP, _, _, _, _, _, _⟩ := HI.out
        have HSs := hid (fun W (k : Kept (fun _ => False) wr W) => ngState_any W (hP.nx.kept0 k))
        have HSc := hid (fun W (k : Kept (fun _ => False) wr W) => ngState_any W (hP.nz.kept0 k))
        have HMi := hid (fun W (k : Kept (fun _ => False) wr W) => ngMine_any W (hP.nz.kept0 k))
        have HTh := hid (fun W (k : Kept (fun _ => False) wr W) => ngTheirs_any W (hP.nz.kept0 k))
        have HKA := hid hP.kept
        obtain ⟨s2, m2, t2⟩ := agC_end (own := own) (dns := dns) (F := F) (Z := Z) L
        rw [agS_end L] at HSs
        rw [s2] at HSc
        rw [m2] at HMi
        rw [t2] at HTh
        have HSzF := hid (And.intro (show F.length ≤ 1000000 by have := HfF.out.1; omega) HfF.out.2.2)
        have HSzO : Hid (([⟨3, adB own⟩] : List Tg).length ≤ 1000000 ∧ ∀ x ∈ ([⟨3, adB own⟩] : List Tg), x.value.size ≤ 140737488351232) := ⟨by simp, fun x hx => by rw [List.mem_singleton.1 hx]; show (adB own).size ≤ _; rw [adB_size]; omega⟩
        have hA3 : adrF [⟨3, adB own⟩] 3 = (own, true) := adr_one rfl rfl
        have HEp := hid (ad_self peer)
        have HEo := hid (ad_self own)
        have HEd := hid (ad_self d)
        have HEe := hid (ad_self e)
        have HZd := hid (ad_eq d ad0)
        have HZe := hid (ad_eq e ad0)
        rw [show decide (numAd d = numAd ad0) = noB d from rfl, show adV ad0 = .agg #[.int .u8 0, .int .u8 0, .int .u8 0, .int .u8 0] from rfl] at HZd
        rw [show decide (numAd e = numAd ad0) = noB e from rfl, show adV ad0 = .agg #[.int .u8 0, .int .u8 0, .int .u8 0, .int .u8 0] from rfl] at HZe
        unfold adV at HEp HEo HEd HEe HZd HZe
        have hA1 := HE.out.a1
        have hA2 := HE.out.a2
        clear hP HI s2 m2 t2 HStX HStZ HOkX HOkZ HFeX HFeZ
        cases dns with
        | false =>
          rw [if_neg (by simp)] at hA1 hA2
          as_aux_lemma =>
          go_wp2_with fail
          refine (HMi.out _ (Kept.refl (fun _ => False) wr)).mono ?_
          rintro r y0a ⟨u, rfl, ho, hk⟩
          obtain ⟨pu0, cu0, eu⟩ := slice_of ho
          subst eu
          have HAd := hid (iaddress_any _ F 3 y0a ho.tags HSzF.out.1 HSzF.out.2)
          rw [HE.out.a3] at HAd
          unfold adV at HAd
          have KA0 := hid ((Kept.refl (fun _ => False) wr).trans hk)
          clear ho hk
          go_wp2_with fail
          refine HAd.out.mono ?_
          rintro r y0b ⟨rfl, hk⟩
          have ka := (Kept.refl (fun _ => False) y0b).alloc (.cells #[.int .u8 (peer.a.toNat : Int), .int .u8 (peer.b.toNat : Int), .int .u8 (peer.c.toNat : Int), .int .u8 (peer.d.toNat : Int)] 24)
          have KB0 := hid ((KA0.out.trans hk).trans ka)
          have B0 := hid (four4_new y0b 24 (.int .u8 (peer.a.toNat : Int)) (.int .u8 (peer.b.toNat : Int)) (.int .u8 (peer.c.toNat : Int)) (.int .u8 (peer.d.toNat : Int)))
          clear hk ka HAd KA0
          go_wp2_with fail
          refine (HMi.out _ KB0.out).mono ?_
          rintro r y1a ⟨u, rfl, ho, hk⟩
          obtain ⟨pu1, cu1, eu⟩ := slice_of ho
          subst eu
          have HAd := hid (iaddress_any _ F 129 y1a ho.tags HSzF.out.1 HSzF.out.2)
          rw [hA1] at HAd
          unfold adV at HAd
          rw [show ad0 = ⟨0, 0, 0, 0⟩ from rfl] at HAd
          change Hid (Calls _ _ _ _ fun e w' => e = .returned (.tuple #[.agg #[.int .u8 0, .int .u8 0, .int .u8 0, .int .u8 0], .bool false]) ∧ _) at HAd
          have KA1 := hid (KB0.out.trans hk)
          have B0 := hid (B0.out.kept hk id)
          clear ho hk
          go_wp2_with fail
          refine HAd.out.mono ?_
          rintro r y1b ⟨rfl, hk⟩
          have ka := (Kept.refl (fun _ => False) y1b).alloc (.cells #[.int .u8 0, .int .u8 0, .int .u8 0, .int .u8 0] 24)
          have KB1 := hid ((KA1.out.trans hk).trans ka)
          have B0 := hid (B0.out.kept (hk.trans ka) id)
          have B1 := hid (four4_new y1b 24 (.int .u8 0) (.int .u8 0) (.int .u8 0) (.int .u8 0))
          clear hk ka HAd KA1
          go_wp2_with fail
          refine (HMi.out _ KB1.out).mono ?_
          rintro r y2a ⟨u, rfl, ho, hk⟩
          obtain ⟨pu2, cu2, eu⟩ := slice_of ho
          subst eu
          have HAd := hid (iaddress_any _ F 131 y2a ho.tags HSzF.out.1 HSzF.out.2)
          rw [hA2] at HAd
          unfold adV at HAd
          rw [show ad0 = ⟨0, 0, 0, 0⟩ from rfl] at HAd
          change Hid (Calls _ _ _ _ fun e w' => e = .returned (.tuple #[.agg #[.int .u8 0, .int .u8 0, .int .u8 0, .int .u8 0], .bool false]) ∧ _) at HAd
          have KA2 := hid (KB1.out.trans hk)
          have B0 := hid (B0.out.kept hk id)
          have B1 := hid (B1.out.kept hk id)
          clear ho hk
          go_wp2_with fail
          refine HAd.out.mono ?_
          rintro r y2b ⟨rfl, hk⟩
          have ka := (Kept.refl (fun _ => False) y2b).alloc (.cells #[.int .u8 0, .int .u8 0, .int .u8 0, .int .u8 0] 24)
          have KB2 := hid ((KA2.out.trans hk).trans ka)
          have B0 := hid (B0.out.kept (hk.trans ka) id)
          have B1 := hid (B1.out.kept (hk.trans ka) id)
          have B2 := hid (four4_new y2b 24 (.int .u8 0) (.int .u8 0) (.int .u8 0) (.int .u8 0))
          clear hk ka HAd KA2
          go_wp2_with fail
          refine (HTh.out _ KB2.out).mono ?_
          rintro r y3a ⟨u, rfl, ho, hk⟩
          obtain ⟨pu3, cu3, eu⟩ := slice_of ho
          subst eu
          have HAd := hid (iaddress_any _ [⟨3, adB own⟩] 3 y3a ho.tags HSzO.out.1 HSzO.out.2)
          rw [hA3] at HAd
          unfold adV at HAd
          have KA3 := hid (KB2.out.trans hk)
          have B0 := hid (B0.out.kept hk id)
          have B1 := hid (B1.out.kept hk id)
          have B2 := hid (B2.out.kept hk id)
          clear ho hk
          go_wp2_with fail
          refine HAd.out.mono ?_
          rintro r y3b ⟨rfl, hk⟩
          have ka := (Kept.refl (fun _ => False) y3b).alloc (.cells #[.int .u8 (own.a.toNat : Int), .int .u8 (own.b.toNat : Int), .int .u8 (own.c.toNat : Int), .int .u8 (own.d.toNat : Int)] 24)
          have KB3 := hid ((KA3.out.trans hk).trans ka)
          have B0 := hid (B0.out.kept (hk.trans ka) id)
          have B1 := hid (B1.out.kept (hk.trans ka) id)
          have B2 := hid (B2.out.kept (hk.trans ka) id)
          have B3 := hid (four4_new y3b 24 (.int .u8 (own.a.toNat : Int)) (.int .u8 (own.b.toNat : Int)) (.int .u8 (own.c.toNat : Int)) (.int .u8 (own.d.toNat : Int)))
          clear hk ka HAd KA3
          go_wp2_with fail
          refine (HAl.out _).mono ?_
          rintro r yz ⟨rfl, hk⟩
          have KZ := hid (KB3.out.trans hk)
          have B0 := hid (B0.out.kept hk id)
          have B1 := hid (B1.out.kept hk id)
          have B2 := hid (B2.out.kept hk id)
          have B3 := hid (B3.out.kept hk id)
          clear hk
          go_wp2_with fail
          refine (HSs.out _ KZ.out).mono ?_
          rintro r w' ⟨rfl, hw⟩
          rw [hw]
          clear hw w'
          go_wp2_with fail
          refine (HSc.out _ KZ.out).mono ?_
          rintro r w' ⟨rfl, hw⟩
          rw [hw]
          clear hw w'
          have KF := hid ((KW.out.trans HKA.out).trans KZ.out)
          obtain ⟨⟨⟨o0, o1, o2, o3⟩, _⟩, ⟨⟨p0, p1, p2, p3⟩, _⟩, ⟨⟨d0, d1, d2, d3⟩, _⟩, ⟨⟨e0, e1, e2, e3⟩, _⟩⟩ := HS.out.kept (HKA.out.trans KZ.out)
          obtain ⟨⟨z0, z1, z2, z3⟩, _⟩ := HZ.out.kept (HKA.out.trans KZ.out) id
          obtain ⟨⟨b00, b01, b02, b03⟩, _⟩ := B0.out
          obtain ⟨⟨b10, b11, b12, b13⟩, _⟩ := B1.out
          obtain ⟨⟨b20, b21, b22, b23⟩, _⟩ := B2.out
          obtain ⟨⟨b30, b31, b32, b33⟩, _⟩ := B3.out
          clear HMi HTh HSs HSc HAl
          dsimp only
          iterate 17 go_step
          refine wpList_eql_wanted (by kernel_rfl) (by kernel_rfl) rfl (by rfl) (by rfl) (HEp.out _) ?_
          repeat (first | ((with_reducible change wpList _ _ _ _ _ _); (refine wpList_eql_wanted (by kernel_rfl) (by kernel_rfl) rfl (by rfl) (by rfl) (HEo.out _) ?_); clear HEo) | (have _q := HEo; clear _q; go_step))
          go_wp2
          go_ret
          exact ⟨rfl, KF.out.below (Nat.le_refl _) (fun _ h => h.elim)⟩
        | true =>
          cases hd : noB d with
          | true =>
            rw [hd] at hA1 HZd
            cases he : noB e with
            | true =>
              rw [he] at hA2 HZe
              rw [if_neg (by simp)] at hA1
              rw [if_neg (by simp)] at hA2
              clear hd he
              as_aux_lemma =>
              go_wp2_with fail
              refine (HMi.out _ (Kept.refl (fun _ => False) wr)).mono ?_
              rintro r y0a ⟨u, rfl, ho, hk⟩
              obtain ⟨pu0, cu0, eu⟩ := slice_of ho
              subst eu
              have HAd := hid (iaddress_any _ F 3 y0a ho.tags HSzF.out.1 HSzF.out.2)
              rw [HE.out.a3] at HAd
              unfold adV at HAd
              have KA0 := hid ((Kept.refl (fun _ => False) wr).trans hk)
              clear ho hk
              go_wp2_with fail
              refine HAd.out.mono ?_
              rintro r y0b ⟨rfl, hk⟩
              have ka := (Kept.refl (fun _ => False) y0b).alloc (.cells #[.int .u8 (peer.a.toNat : Int), .int .u8 (peer.b.toNat : Int), .int .u8 (peer.c.toNat : Int), .int .u8 (peer.d.toNat : Int)] 24)
              have KB0 := hid ((KA0.out.trans hk).trans ka)
              have B0 := hid (four4_new y0b 24 (.int .u8 (peer.a.toNat : Int)) (.int .u8 (peer.b.toNat : Int)) (.int .u8 (peer.c.toNat : Int)) (.int .u8 (peer.d.toNat : Int)))
              clear hk ka HAd KA0
              go_wp2_with fail
              refine (HMi.out _ KB0.out).mono ?_
              rintro r y1a ⟨u, rfl, ho, hk⟩
              obtain ⟨pu1, cu1, eu⟩ := slice_of ho
              subst eu
              have HAd := hid (iaddress_any _ F 129 y1a ho.tags HSzF.out.1 HSzF.out.2)
              rw [hA1] at HAd
              unfold adV at HAd
              rw [show ad0 = ⟨0, 0, 0, 0⟩ from rfl] at HAd
              change Hid (Calls _ _ _ _ fun e w' => e = .returned (.tuple #[.agg #[.int .u8 0, .int .u8 0, .int .u8 0, .int .u8 0], .bool false]) ∧ _) at HAd
              have KA1 := hid (KB0.out.trans hk)
              have B0 := hid (B0.out.kept hk id)
              clear ho hk
              go_wp2_with fail
              refine HAd.out.mono ?_
              rintro r y1b ⟨rfl, hk⟩
              have ka := (Kept.refl (fun _ => False) y1b).alloc (.cells #[.int .u8 0, .int .u8 0, .int .u8 0, .int .u8 0] 24)
              have KB1 := hid ((KA1.out.trans hk).trans ka)
              have B0 := hid (B0.out.kept (hk.trans ka) id)
              have B1 := hid (four4_new y1b 24 (.int .u8 0) (.int .u8 0) (.int .u8 0) (.int .u8 0))
              clear hk ka HAd KA1
              go_wp2_with fail
              refine (HMi.out _ KB1.out).mono ?_
              rintro r y2a ⟨u, rfl, ho, hk⟩
              obtain ⟨pu2, cu2, eu⟩ := slice_of ho
              subst eu
              have HAd := hid (iaddress_any _ F 131 y2a ho.tags HSzF.out.1 HSzF.out.2)
              rw [hA2] at HAd
              unfold adV at HAd
              rw [show ad0 = ⟨0, 0, 0, 0⟩ from rfl] at HAd
              change Hid (Calls _ _ _ _ fun e w' => e = .returned (.tuple #[.agg #[.int .u8 0, .int .u8 0, .int .u8 0, .int .u8 0], .bool false]) ∧ _) at HAd
              have KA2 := hid (KB1.out.trans hk)
              have B0 := hid (B0.out.kept hk id)
              have B1 := hid (B1.out.kept hk id)
              clear ho hk
              go_wp2_with fail
              refine HAd.out.mono ?_
              rintro r y2b ⟨rfl, hk⟩
              have ka := (Kept.refl (fun _ => False) y2b).alloc (.cells #[.int .u8 0, .int .u8 0, .int .u8 0, .int .u8 0] 24)
              have KB2 := hid ((KA2.out.trans hk).trans ka)
              have B0 := hid (B0.out.kept (hk.trans ka) id)
              have B1 := hid (B1.out.kept (hk.trans ka) id)
              have B2 := hid (four4_new y2b 24 (.int .u8 0) (.int .u8 0) (.int .u8 0) (.int .u8 0))
              clear hk ka HAd KA2
              go_wp2_with fail
              refine (HTh.out _ KB2.out).mono ?_
              rintro r y3a ⟨u, rfl, ho, hk⟩
              obtain ⟨pu3, cu3, eu⟩ := slice_of ho
              subst eu
              have HAd := hid (iaddress_any _ [⟨3, adB own⟩] 3 y3a ho.tags HSzO.out.1 HSzO.out.2)
              rw [hA3] at HAd
              unfold adV at HAd
              have KA3 := hid (KB2.out.trans hk)
              have B0 := hid (B0.out.kept hk id)
              have B1 := hid (B1.out.kept hk id)
              have B2 := hid (B2.out.kept hk id)
              clear ho hk
              go_wp2_with fail
              refine HAd.out.mono ?_
              rintro r y3b ⟨rfl, hk⟩
              have ka := (Kept.refl (fun _ => False) y3b).alloc (.cells #[.int .u8 (own.a.toNat : Int), .int .u8 (own.b.toNat : Int), .int .u8 (own.c.toNat : Int), .int .u8 (own.d.toNat : Int)] 24)
              have KB3 := hid ((KA3.out.trans hk).trans ka)
              have B0 := hid (B0.out.kept (hk.trans ka) id)
              have B1 := hid (B1.out.kept (hk.trans ka) id)
              have B2 := hid (B2.out.kept (hk.trans ka) id)
              have B3 := hid (four4_new y3b 24 (.int .u8 (own.a.toNat : Int)) (.int .u8 (own.b.toNat : Int)) (.int .u8 (own.c.toNat : Int)) (.int .u8 (own.d.toNat : Int)))
              clear hk ka HAd KA3
              go_wp2_with fail
              refine (HAl.out _).mono ?_
              rintro r yz ⟨rfl, hk⟩
              have KZ := hid (KB3.out.trans hk)
              have B0 := hid (B0.out.kept hk id)
              have B1 := hid (B1.out.kept hk id)
              have B2 := hid (B2.out.kept hk id)
              have B3 := hid (B3.out.kept hk id)
              clear hk
              go_wp2_with fail
              refine (HSs.out _ KZ.out).mono ?_
              rintro r w' ⟨rfl, hw⟩
              rw [hw]
              clear hw w'
              go_wp2_with fail
              refine (HSc.out _ KZ.out).mono ?_
              rintro r w' ⟨rfl, hw⟩
              rw [hw]
              clear hw w'
              have KF := hid ((KW.out.trans HKA.out).trans KZ.out)
              obtain ⟨⟨⟨o0, o1, o2, o3⟩, _⟩, ⟨⟨p0, p1, p2, p3⟩, _⟩, ⟨⟨d0, d1, d2, d3⟩, _⟩, ⟨⟨e0, e1, e2, e3⟩, _⟩⟩ := HS.out.kept (HKA.out.trans KZ.out)
              obtain ⟨⟨z0, z1, z2, z3⟩, _⟩ := HZ.out.kept (HKA.out.trans KZ.out) id
              obtain ⟨⟨b00, b01, b02, b03⟩, _⟩ := B0.out
              obtain ⟨⟨b10, b11, b12, b13⟩, _⟩ := B1.out
              obtain ⟨⟨b20, b21, b22, b23⟩, _⟩ := B2.out
              obtain ⟨⟨b30, b31, b32, b33⟩, _⟩ := B3.out
              clear HMi HTh HSs HSc HAl
              dsimp only
              iterate 17 go_step
              refine wpList_eql_wanted (by kernel_rfl) (by kernel_rfl) rfl (by rfl) (by rfl) (HEp.out _) ?_
              repeat (first | ((with_reducible change wpList _ _ _ _ _ _); (refine wpList_neq_wanted (by kernel_rfl) (by kernel_rfl) rfl (by rfl) (by rfl) (HZd.out _) ?_); clear HZd) | (have _q := HZd; clear _q; go_step))
              repeat (first | ((with_reducible change wpList _ _ _ _ _ _); (refine wpList_neq_wanted (by kernel_rfl) (by kernel_rfl) rfl (by rfl) (by rfl) (HZe.out _) ?_); clear HZe) | (have _q := HZe; clear _q; go_step))
              repeat (first | ((with_reducible change wpList _ _ _ _ _ _); (refine wpList_eql_wanted (by kernel_rfl) (by kernel_rfl) rfl (by rfl) (by rfl) (HEo.out _) ?_); clear HEo) | (have _q := HEo; clear _q; go_step))
              go_wp2
              go_ret
              exact ⟨rfl, KF.out.below (Nat.le_refl _) (fun _ h => h.elim)⟩
            | false =>
              rw [he] at hA2 HZe
              rw [if_neg (by simp)] at hA1
              rw [if_pos (by simp)] at hA2
              clear hd he
              as_aux_lemma =>
              go_wp2_with fail
              refine (HMi.out _ (Kept.refl (fun _ => False) wr)).mono ?_
              rintro r y0a ⟨u, rfl, ho, hk⟩
              obtain ⟨pu0, cu0, eu⟩ := slice_of ho
              subst eu
              have HAd := hid (iaddress_any _ F 3 y0a ho.tags HSzF.out.1 HSzF.out.2)
              rw [HE.out.a3] at HAd
              unfold adV at HAd
              have KA0 := hid ((Kept.refl (fun _ => False) wr).trans hk)
              clear ho hk
              go_wp2_with fail
              refine HAd.out.mono ?_
              rintro r y0b ⟨rfl, hk⟩
              have ka := (Kept.refl (fun _ => False) y0b).alloc (.cells #[.int .u8 (peer.a.toNat : Int), .int .u8 (peer.b.toNat : Int), .int .u8 (peer.c.toNat : Int), .int .u8 (peer.d.toNat : Int)] 24)
              have KB0 := hid ((KA0.out.trans hk).trans ka)
              have B0 := hid (four4_new y0b 24 (.int .u8 (peer.a.toNat : Int)) (.int .u8 (peer.b.toNat : Int)) (.int .u8 (peer.c.toNat : Int)) (.int .u8 (peer.d.toNat : Int)))
              clear hk ka HAd KA0
              go_wp2_with fail
              refine (HMi.out _ KB0.out).mono ?_
              rintro r y1a ⟨u, rfl, ho, hk⟩
              obtain ⟨pu1, cu1, eu⟩ := slice_of ho
              subst eu
              have HAd := hid (iaddress_any _ F 129 y1a ho.tags HSzF.out.1 HSzF.out.2)
              rw [hA1] at HAd
              unfold adV at HAd
              rw [show ad0 = ⟨0, 0, 0, 0⟩ from rfl] at HAd
              change Hid (Calls _ _ _ _ fun e w' => e = .returned (.tuple #[.agg #[.int .u8 0, .int .u8 0, .int .u8 0, .int .u8 0], .bool false]) ∧ _) at HAd
              have KA1 := hid (KB0.out.trans hk)
              have B0 := hid (B0.out.kept hk id)
              clear ho hk
              go_wp2_with fail
              refine HAd.out.mono ?_
              rintro r y1b ⟨rfl, hk⟩
              have ka := (Kept.refl (fun _ => False) y1b).alloc (.cells #[.int .u8 0, .int .u8 0, .int .u8 0, .int .u8 0] 24)
              have KB1 := hid ((KA1.out.trans hk).trans ka)
              have B0 := hid (B0.out.kept (hk.trans ka) id)
              have B1 := hid (four4_new y1b 24 (.int .u8 0) (.int .u8 0) (.int .u8 0) (.int .u8 0))
              clear hk ka HAd KA1
              go_wp2_with fail
              refine (HMi.out _ KB1.out).mono ?_
              rintro r y2a ⟨u, rfl, ho, hk⟩
              obtain ⟨pu2, cu2, eu⟩ := slice_of ho
              subst eu
              have HAd := hid (iaddress_any _ F 131 y2a ho.tags HSzF.out.1 HSzF.out.2)
              rw [hA2] at HAd
              unfold adV at HAd
              have KA2 := hid (KB1.out.trans hk)
              have B0 := hid (B0.out.kept hk id)
              have B1 := hid (B1.out.kept hk id)
              clear ho hk
              go_wp2_with fail
              refine HAd.out.mono ?_
              rintro r y2b ⟨rfl, hk⟩
              have ka := (Kept.refl (fun _ => False) y2b).alloc (.cells #[.int .u8 (e.a.toNat : Int), .int .u8 (e.b.toNat : Int), .int .u8 (e.c.toNat : Int), .int .u8 (e.d.toNat : Int)] 24)
              have KB2 := hid ((KA2.out.trans hk).trans ka)
              have B0 := hid (B0.out.kept (hk.trans ka) id)
              have B1 := hid (B1.out.kept (hk.trans ka) id)
              have B2 := hid (four4_new y2b 24 (.int .u8 (e.a.toNat : Int)) (.int .u8 (e.b.toNat : Int)) (.int .u8 (e.c.toNat : Int)) (.int .u8 (e.d.toNat : Int)))
              clear hk ka HAd KA2
              go_wp2_with fail
              refine (HTh.out _ KB2.out).mono ?_
              rintro r y3a ⟨u, rfl, ho, hk⟩
              obtain ⟨pu3, cu3, eu⟩ := slice_of ho
              subst eu
              have HAd := hid (iaddress_any _ [⟨3, adB own⟩] 3 y3a ho.tags HSzO.out.1 HSzO.out.2)
              rw [hA3] at HAd
              unfold adV at HAd
              have KA3 := hid (KB2.out.trans hk)
              have B0 := hid (B0.out.kept hk id)
              have B1 := hid (B1.out.kept hk id)
              have B2 := hid (B2.out.kept hk id)
              clear ho hk
              go_wp2_with fail
              refine HAd.out.mono ?_
              rintro r y3b ⟨rfl, hk⟩
              have ka := (Kept.refl (fun _ => False) y3b).alloc (.cells #[.int .u8 (own.a.toNat : Int), .int .u8 (own.b.toNat : Int), .int .u8 (own.c.toNat : Int), .int .u8 (own.d.toNat : Int)] 24)
              have KB3 := hid ((KA3.out.trans hk).trans ka)
              have B0 := hid (B0.out.kept (hk.trans ka) id)
              have B1 := hid (B1.out.kept (hk.trans ka) id)
              have B2 := hid (B2.out.kept (hk.trans ka) id)
              have B3 := hid (four4_new y3b 24 (.int .u8 (own.a.toNat : Int)) (.int .u8 (own.b.toNat : Int)) (.int .u8 (own.c.toNat : Int)) (.int .u8 (own.d.toNat : Int)))
              clear hk ka HAd KA3
              go_wp2_with fail
              refine (HAl.out _).mono ?_
              rintro r yz ⟨rfl, hk⟩
              have KZ := hid (KB3.out.trans hk)
              have B0 := hid (B0.out.kept hk id)
              have B1 := hid (B1.out.kept hk id)
              have B2 := hid (B2.out.kept hk id)
              have B3 := hid (B3.out.kept hk id)
              clear hk
              go_wp2_with fail
              refine (HSs.out _ KZ.out).mono ?_
              rintro r w' ⟨rfl, hw⟩
              rw [hw]
              clear hw w'
              go_wp2_with fail
              refine (HSc.out _ KZ.out).mono ?_
              rintro r w' ⟨rfl, hw⟩
              rw [hw]
              clear hw w'
              have KF := hid ((KW.out.trans HKA.out).trans KZ.out)
              obtain ⟨⟨⟨o0, o1, o2, o3⟩, _⟩, ⟨⟨p0, p1, p2, p3⟩, _⟩, ⟨⟨d0, d1, d2, d3⟩, _⟩, ⟨⟨e0, e1, e2, e3⟩, _⟩⟩ := HS.out.kept (HKA.out.trans KZ.out)
              obtain ⟨⟨z0, z1, z2, z3⟩, _⟩ := HZ.out.kept (HKA.out.trans KZ.out) id
              obtain ⟨⟨b00, b01, b02, b03⟩, _⟩ := B0.out
              obtain ⟨⟨b10, b11, b12, b13⟩, _⟩ := B1.out
              obtain ⟨⟨b20, b21, b22, b23⟩, _⟩ := B2.out
              obtain ⟨⟨b30, b31, b32, b33⟩, _⟩ := B3.out
              clear HMi HTh HSs HSc HAl
              dsimp only
              iterate 17 go_step
              refine wpList_eql_wanted (by kernel_rfl) (by kernel_rfl) rfl (by rfl) (by rfl) (HEp.out _) ?_
              repeat (first | ((with_reducible change wpList _ _ _ _ _ _); (refine wpList_neq_wanted (by kernel_rfl) (by kernel_rfl) rfl (by rfl) (by rfl) (HZd.out _) ?_); clear HZd) | (have _q := HZd; clear _q; go_step))
              repeat (first | ((with_reducible change wpList _ _ _ _ _ _); (refine wpList_neq_wanted (by kernel_rfl) (by kernel_rfl) rfl (by rfl) (by rfl) (HZe.out _) ?_); clear HZe) | (have _q := HZe; clear _q; go_step))
              repeat (first | ((with_reducible change wpList _ _ _ _ _ _); (refine wpList_eql_wanted (by kernel_rfl) (by kernel_rfl) rfl (by rfl) (by rfl) (HEe.out _) ?_); clear HEe) | (have _q := HEe; clear _q; go_step))
              repeat (first | ((with_reducible change wpList _ _ _ _ _ _); (refine wpList_eql_wanted (by kernel_rfl) (by kernel_rfl) rfl (by rfl) (by rfl) (HEo.out _) ?_); clear HEo) | (have _q := HEo; clear _q; go_step))
              go_wp2
              go_ret
              exact ⟨rfl, KF.out.below (Nat.le_refl _) (fun _ h => h.elim)⟩
          | false =>
            rw [hd] at hA1 HZd
            cases he : noB e with
            | true =>
              rw [he] at hA2 HZe
              rw [if_pos (by simp)] at hA1
              rw [if_neg (by simp)] at hA2
              clear hd he
              as_aux_lemma =>
              go_wp2_with fail
              refine (HMi.out _ (Kept.refl (fun _ => False) wr)).mono ?_
              rintro r y0a ⟨u, rfl, ho, hk⟩
              obtain ⟨pu0, cu0, eu⟩ := slice_of ho
              subst eu
              have HAd := hid (iaddress_any _ F 3 y0a ho.tags HSzF.out.1 HSzF.out.2)
              rw [HE.out.a3] at HAd
              unfold adV at HAd
              have KA0 := hid ((Kept.refl (fun _ => False) wr).trans hk)
              clear ho hk
              go_wp2_with fail
              refine HAd.out.mono ?_
              rintro r y0b ⟨rfl, hk⟩
              have ka := (Kept.refl (fun _ => False) y0b).alloc (.cells #[.int .u8 (peer.a.toNat : Int), .int .u8 (peer.b.toNat : Int), .int .u8 (peer.c.toNat : Int), .int .u8 (peer.d.toNat : Int)] 24)
              have KB0 := hid ((KA0.out.trans hk).trans ka)
              have B0 := hid (four4_new y0b 24 (.int .u8 (peer.a.toNat : Int)) (.int .u8 (peer.b.toNat : Int)) (.int .u8 (peer.c.toNat : Int)) (.int .u8 (peer.d.toNat : Int)))
              clear hk ka HAd KA0
              go_wp2_with fail
              refine (HMi.out _ KB0.out).mono ?_
              rintro r y1a ⟨u, rfl, ho, hk⟩
              obtain ⟨pu1, cu1, eu⟩ := slice_of ho
              subst eu
              have HAd := hid (iaddress_any _ F 129 y1a ho.tags HSzF.out.1 HSzF.out.2)
              rw [hA1] at HAd
              unfold adV at HAd
              have KA1 := hid (KB0.out.trans hk)
              have B0 := hid (B0.out.kept hk id)
              clear ho hk
              go_wp2_with fail
              refine HAd.out.mono ?_
              rintro r y1b ⟨rfl, hk⟩
              have ka := (Kept.refl (fun _ => False) y1b).alloc (.cells #[.int .u8 (d.a.toNat : Int), .int .u8 (d.b.toNat : Int), .int .u8 (d.c.toNat : Int), .int .u8 (d.d.toNat : Int)] 24)
              have KB1 := hid ((KA1.out.trans hk).trans ka)
              have B0 := hid (B0.out.kept (hk.trans ka) id)
              have B1 := hid (four4_new y1b 24 (.int .u8 (d.a.toNat : Int)) (.int .u8 (d.b.toNat : Int)) (.int .u8 (d.c.toNat : Int)) (.int .u8 (d.d.toNat : Int)))
              clear hk ka HAd KA1
              go_wp2_with fail
              refine (HMi.out _ KB1.out).mono ?_
              rintro r y2a ⟨u, rfl, ho, hk⟩
              obtain ⟨pu2, cu2, eu⟩ := slice_of ho
              subst eu
              have HAd := hid (iaddress_any _ F 131 y2a ho.tags HSzF.out.1 HSzF.out.2)
              rw [hA2] at HAd
              unfold adV at HAd
              rw [show ad0 = ⟨0, 0, 0, 0⟩ from rfl] at HAd
              change Hid (Calls _ _ _ _ fun e w' => e = .returned (.tuple #[.agg #[.int .u8 0, .int .u8 0, .int .u8 0, .int .u8 0], .bool false]) ∧ _) at HAd
              have KA2 := hid (KB1.out.trans hk)
              have B0 := hid (B0.out.kept hk id)
              have B1 := hid (B1.out.kept hk id)
              clear ho hk
              go_wp2_with fail
              refine HAd.out.mono ?_
              rintro r y2b ⟨rfl, hk⟩
              have ka := (Kept.refl (fun _ => False) y2b).alloc (.cells #[.int .u8 0, .int .u8 0, .int .u8 0, .int .u8 0] 24)
              have KB2 := hid ((KA2.out.trans hk).trans ka)
              have B0 := hid (B0.out.kept (hk.trans ka) id)
              have B1 := hid (B1.out.kept (hk.trans ka) id)
              have B2 := hid (four4_new y2b 24 (.int .u8 0) (.int .u8 0) (.int .u8 0) (.int .u8 0))
              clear hk ka HAd KA2
              go_wp2_with fail
              refine (HTh.out _ KB2.out).mono ?_
              rintro r y3a ⟨u, rfl, ho, hk⟩
              obtain ⟨pu3, cu3, eu⟩ := slice_of ho
              subst eu
              have HAd := hid (iaddress_any _ [⟨3, adB own⟩] 3 y3a ho.tags HSzO.out.1 HSzO.out.2)
              rw [hA3] at HAd
              unfold adV at HAd
              have KA3 := hid (KB2.out.trans hk)
              have B0 := hid (B0.out.kept hk id)
              have B1 := hid (B1.out.kept hk id)
              have B2 := hid (B2.out.kept hk id)
              clear ho hk
              go_wp2_with fail
              refine HAd.out.mono ?_
              rintro r y3b ⟨rfl, hk⟩
              have ka := (Kept.refl (fun _ => False) y3b).alloc (.cells #[.int .u8 (own.a.toNat : Int), .int .u8 (own.b.toNat : Int), .int .u8 (own.c.toNat : Int), .int .u8 (own.d.toNat : Int)] 24)
              have KB3 := hid ((KA3.out.trans hk).trans ka)
              have B0 := hid (B0.out.kept (hk.trans ka) id)
              have B1 := hid (B1.out.kept (hk.trans ka) id)
              have B2 := hid (B2.out.kept (hk.trans ka) id)
              have B3 := hid (four4_new y3b 24 (.int .u8 (own.a.toNat : Int)) (.int .u8 (own.b.toNat : Int)) (.int .u8 (own.c.toNat : Int)) (.int .u8 (own.d.toNat : Int)))
              clear hk ka HAd KA3
              go_wp2_with fail
              refine (HAl.out _).mono ?_
              rintro r yz ⟨rfl, hk⟩
              have KZ := hid (KB3.out.trans hk)
              have B0 := hid (B0.out.kept hk id)
              have B1 := hid (B1.out.kept hk id)
              have B2 := hid (B2.out.kept hk id)
              have B3 := hid (B3.out.kept hk id)
              clear hk
              go_wp2_with fail
              refine (HSs.out _ KZ.out).mono ?_
              rintro r w' ⟨rfl, hw⟩
              rw [hw]
              clear hw w'
              go_wp2_with fail
              refine (HSc.out _ KZ.out).mono ?_
              rintro r w' ⟨rfl, hw⟩
              rw [hw]
              clear hw w'
              have KF := hid ((KW.out.trans HKA.out).trans KZ.out)
              obtain ⟨⟨⟨o0, o1, o2, o3⟩, _⟩, ⟨⟨p0, p1, p2, p3⟩, _⟩, ⟨⟨d0, d1, d2, d3⟩, _⟩, ⟨⟨e0, e1, e2, e3⟩, _⟩⟩ := HS.out.kept (HKA.out.trans KZ.out)
              obtain ⟨⟨z0, z1, z2, z3⟩, _⟩ := HZ.out.kept (HKA.out.trans KZ.out) id
              obtain ⟨⟨b00, b01, b02, b03⟩, _⟩ := B0.out
              obtain ⟨⟨b10, b11, b12, b13⟩, _⟩ := B1.out
              obtain ⟨⟨b20, b21, b22, b23⟩, _⟩ := B2.out
              obtain ⟨⟨b30, b31, b32, b33⟩, _⟩ := B3.out
              clear HMi HTh HSs HSc HAl
              dsimp only
              iterate 17 go_step
              refine wpList_eql_wanted (by kernel_rfl) (by kernel_rfl) rfl (by rfl) (by rfl) (HEp.out _) ?_
              repeat (first | ((with_reducible change wpList _ _ _ _ _ _); (refine wpList_neq_wanted (by kernel_rfl) (by kernel_rfl) rfl (by rfl) (by rfl) (HZd.out _) ?_); clear HZd) | (have _q := HZd; clear _q; go_step))
              repeat (first | ((with_reducible change wpList _ _ _ _ _ _); (refine wpList_neq_wanted (by kernel_rfl) (by kernel_rfl) rfl (by rfl) (by rfl) (HZe.out _) ?_); clear HZe) | (have _q := HZe; clear _q; go_step))
              repeat (first | ((with_reducible change wpList _ _ _ _ _ _); (refine wpList_eql_wanted (by kernel_rfl) (by kernel_rfl) rfl (by rfl) (by rfl) (HEd.out _) ?_); clear HEd) | (have _q := HEd; clear _q; go_step))
              repeat (first | ((with_reducible change wpList _ _ _ _ _ _); (refine wpList_eql_wanted (by kernel_rfl) (by kernel_rfl) rfl (by rfl) (by rfl) (HEo.out _) ?_); clear HEo) | (have _q := HEo; clear _q; go_step))
              go_wp2
              go_ret
              exact ⟨rfl, KF.out.below (Nat.le_refl _) (fun _ h => h.elim)⟩
            | false =>
              rw [he] at hA2 HZe
              rw [if_pos (by simp)] at hA1
              rw [if_pos (by simp)] at hA2
              clear hd he
              as_aux_lemma =>
              go_wp2_with fail
              refine (HMi.out _ (Kept.refl (fun _ => False) wr)).mono ?_
              rintro r y0a ⟨u, rfl, ho, hk⟩
              obtain ⟨pu0, cu0, eu⟩ := slice_of ho
              subst eu
              have HAd := hid (iaddress_any _ F 3 y0a ho.tags HSzF.out.1 HSzF.out.2)
              rw [HE.out.a3] at HAd
              unfold adV at HAd
              have KA0 := hid ((Kept.refl (fun _ => False) wr).trans hk)
              clear ho hk
              go_wp2_with fail
              refine HAd.out.mono ?_
              rintro r y0b ⟨rfl, hk⟩
              have ka := (Kept.refl (fun _ => False) y0b).alloc (.cells #[.int .u8 (peer.a.toNat : Int), .int .u8 (peer.b.toNat : Int), .int .u8 (peer.c.toNat : Int), .int .u8 (peer.d.toNat : Int)] 24)
              have KB0 := hid ((KA0.out.trans hk).trans ka)
              have B0 := hid (four4_new y0b 24 (.int .u8 (peer.a.toNat : Int)) (.int .u8 (peer.b.toNat : Int)) (.int .u8 (peer.c.toNat : Int)) (.int .u8 (peer.d.toNat : Int)))
              clear hk ka HAd KA0
              go_wp2_with fail
              refine (HMi.out _ KB0.out).mono ?_
              rintro r y1a ⟨u, rfl, ho, hk⟩
              obtain ⟨pu1, cu1, eu⟩ := slice_of ho
              subst eu
              have HAd := hid (iaddress_any _ F 129 y1a ho.tags HSzF.out.1 HSzF.out.2)
              rw [hA1] at HAd
              unfold adV at HAd
              have KA1 := hid (KB0.out.trans hk)
              have B0 := hid (B0.out.kept hk id)
              clear ho hk
              go_wp2_with fail
              refine HAd.out.mono ?_
              rintro r y1b ⟨rfl, hk⟩
              have ka := (Kept.refl (fun _ => False) y1b).alloc (.cells #[.int .u8 (d.a.toNat : Int), .int .u8 (d.b.toNat : Int), .int .u8 (d.c.toNat : Int), .int .u8 (d.d.toNat : Int)] 24)
              have KB1 := hid ((KA1.out.trans hk).trans ka)
              have B0 := hid (B0.out.kept (hk.trans ka) id)
              have B1 := hid (four4_new y1b 24 (.int .u8 (d.a.toNat : Int)) (.int .u8 (d.b.toNat : Int)) (.int .u8 (d.c.toNat : Int)) (.int .u8 (d.d.toNat : Int)))
              clear hk ka HAd KA1
              go_wp2_with fail
              refine (HMi.out _ KB1.out).mono ?_
              rintro r y2a ⟨u, rfl, ho, hk⟩
              obtain ⟨pu2, cu2, eu⟩ := slice_of ho
              subst eu
              have HAd := hid (iaddress_any _ F 131 y2a ho.tags HSzF.out.1 HSzF.out.2)
              rw [hA2] at HAd
              unfold adV at HAd
              have KA2 := hid (KB1.out.trans hk)
              have B0 := hid (B0.out.kept hk id)
              have B1 := hid (B1.out.kept hk id)
              clear ho hk
              go_wp2_with fail
              refine HAd.out.mono ?_
              rintro r y2b ⟨rfl, hk⟩
              have ka := (Kept.refl (fun _ => False) y2b).alloc (.cells #[.int .u8 (e.a.toNat : Int), .int .u8 (e.b.toNat : Int), .int .u8 (e.c.toNat : Int), .int .u8 (e.d.toNat : Int)] 24)
              have KB2 := hid ((KA2.out.trans hk).trans ka)
              have B0 := hid (B0.out.kept (hk.trans ka) id)
              have B1 := hid (B1.out.kept (hk.trans ka) id)
              have B2 := hid (four4_new y2b 24 (.int .u8 (e.a.toNat : Int)) (.int .u8 (e.b.toNat : Int)) (.int .u8 (e.c.toNat : Int)) (.int .u8 (e.d.toNat : Int)))
              clear hk ka HAd KA2
              go_wp2_with fail
              refine (HTh.out _ KB2.out).mono ?_
              rintro r y3a ⟨u, rfl, ho, hk⟩
              obtain ⟨pu3, cu3, eu⟩ := slice_of ho
              subst eu
              have HAd := hid (iaddress_any _ [⟨3, adB own⟩] 3 y3a ho.tags HSzO.out.1 HSzO.out.2)
              rw [hA3] at HAd
              unfold adV at HAd
              have KA3 := hid (KB2.out.trans hk)
              have B0 := hid (B0.out.kept hk id)
              have B1 := hid (B1.out.kept hk id)
              have B2 := hid (B2.out.kept hk id)
              clear ho hk
              go_wp2_with fail
              refine HAd.out.mono ?_
              rintro r y3b ⟨rfl, hk⟩
              have ka := (Kept.refl (fun _ => False) y3b).alloc (.cells #[.int .u8 (own.a.toNat : Int), .int .u8 (own.b.toNat : Int), .int .u8 (own.c.toNat : Int), .int .u8 (own.d.toNat : Int)] 24)
              have KB3 := hid ((KA3.out.trans hk).trans ka)
              have B0 := hid (B0.out.kept (hk.trans ka) id)
              have B1 := hid (B1.out.kept (hk.trans ka) id)
              have B2 := hid (B2.out.kept (hk.trans ka) id)
              have B3 := hid (four4_new y3b 24 (.int .u8 (own.a.toNat : Int)) (.int .u8 (own.b.toNat : Int)) (.int .u8 (own.c.toNat : Int)) (.int .u8 (own.d.toNat : Int)))
              clear hk ka HAd KA3
              go_wp2_with fail
              refine (HAl.out _).mono ?_
              rintro r yz ⟨rfl, hk⟩
              have KZ := hid (KB3.out.trans hk)
              have B0 := hid (B0.out.kept hk id)
              have B1 := hid (B1.out.kept hk id)
              have B2 := hid (B2.out.kept hk id)
              have B3 := hid (B3.out.kept hk id)
              clear hk
              go_wp2_with fail
              refine (HSs.out _ KZ.out).mono ?_
              rintro r w' ⟨rfl, hw⟩
              rw [hw]
              clear hw w'
              go_wp2_with fail
              refine (HSc.out _ KZ.out).mono ?_
              rintro r w' ⟨rfl, hw⟩
              rw [hw]
              clear hw w'
              have KF := hid ((KW.out.trans HKA.out).trans KZ.out)
              obtain ⟨⟨⟨o0, o1, o2, o3⟩, _⟩, ⟨⟨p0, p1, p2, p3⟩, _⟩, ⟨⟨d0, d1, d2, d3⟩, _⟩, ⟨⟨e0, e1, e2, e3⟩, _⟩⟩ := HS.out.kept (HKA.out.trans KZ.out)
              obtain ⟨⟨z0, z1, z2, z3⟩, _⟩ := HZ.out.kept (HKA.out.trans KZ.out) id
              obtain ⟨⟨b00, b01, b02, b03⟩, _⟩ := B0.out
              obtain ⟨⟨b10, b11, b12, b13⟩, _⟩ := B1.out
              obtain ⟨⟨b20, b21, b22, b23⟩, _⟩ := B2.out
              obtain ⟨⟨b30, b31, b32, b33⟩, _⟩ := B3.out
              clear HMi HTh HSs HSc HAl
              dsimp only
              iterate 17 go_step
              refine wpList_eql_wanted (by kernel_rfl) (by kernel_rfl) rfl (by rfl) (by rfl) (HEp.out _) ?_
              repeat (first | ((with_reducible change wpList _ _ _ _ _ _); (refine wpList_neq_wanted (by kernel_rfl) (by kernel_rfl) rfl (by rfl) (by rfl) (HZd.out _) ?_); clear HZd) | (have _q := HZd; clear _q; go_step))
              repeat (first | ((with_reducible change wpList _ _ _ _ _ _); (refine wpList_neq_wanted (by kernel_rfl) (by kernel_rfl) rfl (by rfl) (by rfl) (HZe.out _) ?_); clear HZe) | (have _q := HZe; clear _q; go_step))
              repeat (first | ((with_reducible change wpList _ _ _ _ _ _); (refine wpList_eql_wanted (by kernel_rfl) (by kernel_rfl) rfl (by rfl) (by rfl) (HEd.out _) ?_); clear HEd) | (have _q := HEd; clear _q; go_step))
              repeat (first | ((with_reducible change wpList _ _ _ _ _ _); (refine wpList_eql_wanted (by kernel_rfl) (by kernel_rfl) rfl (by rfl) (by rfl) (HEe.out _) ?_); clear HEe) | (have _q := HEe; clear _q; go_step))
              repeat (first | ((with_reducible change wpList _ _ _ _ _ _); (refine wpList_eql_wanted (by kernel_rfl) (by kernel_rfl) rfl (by rfl) (by rfl) (HEo.out _) ?_); clear HEo) | (have _q := HEo; clear _q; go_step))
              go_wp2
              go_ret
              exact ⟨rfl, KF.out.below (Nat.le_refl _) (fun _ h => h.elim)⟩
end Go.Proofs.Ytcmdfcdmfdheeaa
