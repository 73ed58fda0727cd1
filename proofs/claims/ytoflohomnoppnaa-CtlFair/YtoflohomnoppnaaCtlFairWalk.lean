/- CtlFair, walked: where little is lost, all that was given is told. (Written by gen_ctlfair.py.) -/
import Derived.Test.YtoflohomnoppnaaFairP
import Derived.Test.YtoflohomnoppnaaFairKit
namespace Go.Proofs.Ytoflohomnoppnaa
open Go.RowKit

/-- The sender behind j Sends. -/
def gaveN (win first : Int) (j : Nat) : Cn := { newN win 40 5 2 first with waits := msgsN j }
theorem give_gave (win first : Int) {j : Nat} (hj : j < 40) : giveN (gaveN win first j) (msgN j) = (gaveN win first (j + 1), 0) := by
  unfold giveN
  rw [if_neg (by simp [gaveN, newN]), if_neg (by rw [show (msgN j).size = 2 from rfl]; omega), if_neg (by simp only [gaveN, newN, msgsN_len]; omega)]
  rfl
theorem inv_start (win first : Int) (n : Nat) (hn : n ≤ 40) (hok : newOkN win 40 5 2 first = true) (hg : GoodN (gaveN win first n)) (lam : Int) (hl : 0 ≤ lam ∧ lam ≤ 3) : InvF (msgsN n) win first 0 ⟨lam, gaveN win first n, newN win 40 5 2 first, []⟩ := by
  have hf : 0 ≤ first ∧ first ≤ 65535 := by
    simp only [newOkN, Bool.and_eq_true, decide_eq_true_eq] at hok
    omega
  have hw : wrapN (first + ((0 : Nat) : Int)) = first := by unfold wrapN; omega
  refine Or.inl ⟨0, Nat.zero_le _, ⟨hg, rfl, rfl, rfl, rfl, rfl, hw.symm, rfl, rfl, rfl, rfl, rfl, rfl⟩, ?_, rfl, hl.1, hl.2, Or.inr (Or.inr ⟨rfl, rfl, rfl⟩), Or.inr (by rw [msgsN_len]; omega)⟩
  unfold sB
  rw [hw]
  rfl
theorem eatN_cons (x : Ite) (r : List Ite) (lam : Int) (B : Cn) (g : List ByteArray) : eatN (x :: r) lam B g = if 0 < lam then eatN r (lam - 1) B g else eatN r lam (takeN B x).1 (g ++ (takeN B x).2) := rfl
theorem drop_cons' {α : Type} {l : List α} {j : Nat} {x : α} (h : l[j]? = some x) : l.drop j = x :: l.drop (j + 1) := by
  obtain ⟨hl, rfl⟩ := List.getElem?_eq_some_iff.1 h
  exact List.drop_eq_getElem_cons hl
theorem takeN_few (c : Cn) (i : Ite) : (takeN c i).2.length ≤ 1 := by
  unfold takeN
  split
  · simp
  · split
    · simp
    · split <;> simp
theorem flyN_few : ∀ (n : Nat) (c : Cn) (O : List Ite), (flyN n c O).2.length ≤ O.length + n
  | 0, c, O => Nat.le_refl _
  | n + 1, c, O => by
    unfold flyN
    split
    · show O.length ≤ _
      omega
    · rename_i x r _
      split
      · have := flyN_few n (launchN c x r) (O ++ [⟨c.next, c.come, x⟩])
        simp only [List.length_append, List.length_cons, List.length_nil] at this
        omega
      · show O.length ≤ _
        omega
theorem outN_few {c : Cn} (h : GoodN c) : (outN c).2.length ≤ 50 := by
  have h1 := h.waits.1
  have h2 := h.queue
  unfold outN
  split
  · simp
  · have h3 := flyN_few c.waits.length c (againN c)
    have h4 := againN_few c
    unfold ackOf
    split
    · simp
    · exact Nat.le_trans h3 (by omega)

set_option maxHeartbeats 16000000 in
set_option maxRecDepth 100000 in
theorem ctlFair_walk (win first n lost : Int) (w : World) (_h0 : -9223372036854775808 ≤ win ∧ win ≤ 9223372036854775807) (_h1 : -9223372036854775808 ≤ first ∧ first ≤ 9223372036854775807) (_h2 : -9223372036854775808 ≤ n ∧ n ≤ 9223372036854775807) (_h3 : -9223372036854775808 ≤ lost ∧ lost ≤ 9223372036854775807) :
    Calls Try.prog 6 #[.int .i64 win, .int .i64 first, .int .i64 n, .int .i64 lost] w fun e w' => e = .returned (.bool true) ∧ Below w.heap.size w w' := by
  have HA := hid (fun W => aliveN_any W)
  clear _h0 _h1 _h2 _h3
  by_cases b0 : win < 1
  · go_enter Try.func6, Try.ntmps6
    go_wp2_with fail
    refine (HA.out _).mono ?_
    rintro e w1 ⟨rfl, hk⟩
    have HK := hid hk
    clear hk HA
    go_wp2
    go_returns
    exact ⟨rfl, HK.out.below (Nat.le_refl _) (fun _ f => f.elim)⟩
  by_cases b1 : 8 < win
  · go_enter Try.func6, Try.ntmps6
    go_wp2_with fail
    refine (HA.out _).mono ?_
    rintro e w1 ⟨rfl, hk⟩
    have HK := hid hk
    clear hk HA
    go_wp2
    go_returns
    exact ⟨rfl, HK.out.below (Nat.le_refl _) (fun _ f => f.elim)⟩
  by_cases b2 : first < 0
  · go_enter Try.func6, Try.ntmps6
    go_wp2_with fail
    refine (HA.out _).mono ?_
    rintro e w1 ⟨rfl, hk⟩
    have HK := hid hk
    clear hk HA
    go_wp2
    go_returns
    exact ⟨rfl, HK.out.below (Nat.le_refl _) (fun _ f => f.elim)⟩
  by_cases b3 : 65535 < first
  · go_enter Try.func6, Try.ntmps6
    go_wp2_with fail
    refine (HA.out _).mono ?_
    rintro e w1 ⟨rfl, hk⟩
    have HK := hid hk
    clear hk HA
    go_wp2
    go_returns
    exact ⟨rfl, HK.out.below (Nat.le_refl _) (fun _ f => f.elim)⟩
  by_cases b4 : n < 0
  · go_enter Try.func6, Try.ntmps6
    go_wp2_with fail
    refine (HA.out _).mono ?_
    rintro e w1 ⟨rfl, hk⟩
    have HK := hid hk
    clear hk HA
    go_wp2
    go_returns
    exact ⟨rfl, HK.out.below (Nat.le_refl _) (fun _ f => f.elim)⟩
  by_cases b5 : 40 < n
  · go_enter Try.func6, Try.ntmps6
    go_wp2_with fail
    refine (HA.out _).mono ?_
    rintro e w1 ⟨rfl, hk⟩
    have HK := hid hk
    clear hk HA
    go_wp2
    go_returns
    exact ⟨rfl, HK.out.below (Nat.le_refl _) (fun _ f => f.elim)⟩
  by_cases b6 : lost < 0
  · go_enter Try.func6, Try.ntmps6
    go_wp2_with fail
    refine (HA.out _).mono ?_
    rintro e w1 ⟨rfl, hk⟩
    have HK := hid hk
    clear hk HA
    go_wp2
    go_returns
    exact ⟨rfl, HK.out.below (Nat.le_refl _) (fun _ f => f.elim)⟩
  by_cases b7 : 3 < lost
  · go_enter Try.func6, Try.ntmps6
    go_wp2_with fail
    refine (HA.out _).mono ?_
    rintro e w1 ⟨rfl, hk⟩
    have HK := hid hk
    clear hk HA
    go_wp2
    go_returns
    exact ⟨rfl, HK.out.below (Nat.le_refl _) (fun _ f => f.elim)⟩
  have hok : newOkN win 40 5 2 first = true := by
    simp only [newOkN, Bool.and_eq_true, decide_eq_true_eq]
    omega
  have g0 := good_newN hok
  have hf : 0 ≤ first ∧ first ≤ 65535 := ⟨by omega, by omega⟩
  have HF := hid hf
  obtain ⟨N, rfl⟩ : ∃ N : Nat, n = (N : Int) := ⟨n.toNat, by omega⟩
  have hN : N ≤ 40 := by omega
  have HN := hid hN
  have hgav : ∀ j, j ≤ 40 → GoodN (gaveN win first j) := fun j hj => by
    refine { g0 with waits := ⟨?_, fun x hx => ?_⟩ }
    · show ((msgsN j).length : Int) ≤ 40
      rw [msgsN_len]
      omega
    · have := msgsN_size j x hx
      omega
  have HGav := hid hgav
  have HStart := hid (inv_start win first N hN hok (hgav N hN) lost ⟨by omega, by omega⟩)
  have HNew1 := hid (new_any win 40 5 2 first w)
  have HNew2 := hid (fun W => new_any win 40 5 2 first W)
  have HOK := hid hok
  have Hg0 := hid g0
  have hlb : 0 ≤ lost ∧ lost ≤ 3 := ⟨by omega, by omega⟩
  have HLB := hid hlb
  clear hok hf hgav hlb g0
  go_enter Try.func6, Try.ntmps6
  go_wp2_with fail
  refine (HNew1.out).mono ?_
  rintro e w1 (⟨hb0, _⟩ | ⟨-, a, rfl, hcA, ha, hk1⟩)
  · exact absurd (hb0.symm.trans HOK.out) (by decide)
  go_wp2_with fail
  refine (HNew2.out w1).mono ?_
  rintro e w2 (⟨hb0, _⟩ | ⟨-, b, rfl, hcB, hb, hk2⟩)
  · exact absurd (hb0.symm.trans HOK.out) (by decide)
  have hs1 := hk1.size
  have halt := hcA.blk.lt
  have HT0 : Hid (TwoE (fun i => if i = a then 1 else if i = b then 2 else 0) w w2 a b (gaveN win first 0) (newN win 40 5 2 first) (.slice none 0 0) (.slice none 0 0) (.slice none 0 0) (.slice none 0 0) (.slice none 0 0) (.slice none 0 0) (msgsN 0) []) := by
    refine ⟨hcA.kept0 hk2, hcB, OwnG.nil _ _, OwnG.nil _ _, ?_, ?_, fun i hi => (by cases hi), fun i hi => (by cases hi), HGav.out 0 (by omega), Hg0.out, hk1.trans hk2⟩
    · rintro i (rfl | g | g)
      · exact ⟨if_pos rfl, ha⟩
      · cases g
      · cases g
    · rintro i (rfl | g | g)
      · exact ⟨by rw [if_neg (by omega), if_pos rfl], by omega⟩
      · cases g
      · cases g
  clear hcA hcB hk1 hk2 ha hb hs1 halt HNew1 HNew2
  go_upto_region 9 with fail
  go_loopw [13, 15] (fun vs vi wr => ∃ (j : Nat) (col : Nat → Nat) (pa qa pb qb : Value), j ≤ N ∧ vi = .int .i64 (j : Int) ∧ Hid (TwoE col w wr a b (gaveN win first j) (newN win 40 5 2 first) pa qa pb qb vs (.slice none 0 0) (msgsN j) [])) (fun _ vi _ => N - (intOf vi).toNat)
  case atStart => exact ⟨0, _, _, _, _, _, Nat.zero_le _, rfl, HT0⟩
  case round =>
    obtain ⟨j, col, pa, qa, pb, qb, hj, rfl, HT⟩ := hrel
    clear HT0
    by_cases hlt : j < N
    · have hltz : (j : Int) < (N : Int) := by omega
      have HCv := hid (conv_msg wr j (by omega))
      have wu : IntKind.u8.wrap (j : Int) = (j : Int) := by rw [IntKind.wrap_u8]; omega
      have ka := (Kept.refl (fun _ => False) wr).alloc (.cells #[.int .u8 109, .int .u8 (j : Int)] 5)
      have HTa := hid (HT.out.kept0 ka)
      have hS := send_any HTa.out.mA HTa.out.gA (msgN j)
      rw [give_gave win first (by omega)] at hS
      have HS := hid hS
      have hcv := HCv.out
      clear ka hS HT
      go_upto_region 12 with fail
      clear hcv HCv wu
      generalize wr.alloc (.cells #[.int .u8 109, .int .u8 (j : Int)] 5) = X at *
      go_wp2_with fail
      refine (HS.out).mono ?_
      rintro e w5 ⟨rfl, pa5, hn5⟩
      have HT5 := hid (HTa.out.stepA hn5 (HGav.out (j + 1) (by omega)))
      clear hn5 HS HTa
      obtain ⟨v6, w6, happ, ho6, hk6, hn6⟩ := push_one tyS encS_ok HT5.out.s HT5.out.kept.size (msgN j) (by rw [msgsN_len]; omega)
      have HT6 := hid (HT5.out.growS ho6 hk6 hn6)
      obtain ⟨ps, cs, hvs⟩ := own_slice HT5.out.s
      obtain ⟨p6, c6, hv6⟩ := own_slice ho6
      rw [msgsN_len] at hvs
      rw [show (msgsN j ++ [msgN j]).length = j + 1 from by rw [List.length_append, msgsN_len]; rfl] at hv6
      subst hvs hv6
      have Happ : Hid (∀ ty, (Builtin.append_ #[29, 29] ty #[.slice ps j cs, .slice (some ⟨w5.heap.size, 0, none⟩) 1 1]).run Try.prog (w5.alloc (.cells #[.string (msgN j)] 9)) = .ok (.slice p6 (j + 1) c6) w6) := happ
      clear happ ho6 hk6 hn6 HT5
      go_wp2_with (at_builtin; refine Lib.wpList_append_run _ rfl _ _ _ _ rfl _ _ rfl rfl _ _ (Happ.out _) ?_)
      go_wp2
      exact ⟨⟨j + 1, _, _, _, _, _, hlt, by go_num, HT6⟩, by simp [intOf]; omega⟩
    · have hltz : ¬ (j : Int) < (N : Int) := by omega
      obtain rfl : j = N := by omega
      have HT2 := hid HT.out
      clear HT
      obtain ⟨psn, csn, hvsn⟩ := own_slice HT2.out.s
      subst hvsn
      go_upto_region 16 with fail
      go_loopw [3, 14, 17] (fun vl vg vi wr => ∃ (i : Nat) (s : FS) (col : Nat → Nat) (pa qa pb qb : Value), i ≤ 400 ∧ vi = .int .i64 (i : Int) ∧ vl = .int .i64 s.lam ∧ Hid (InvF (msgsN j) win first i s ∧ 0 ≤ s.lam ∧ s.lam ≤ 3 ∧ s.g.length ≤ 100 * i ∧ TwoE col w wr a b s.A s.B pa qa pb qb (.slice psn (msgsN j).length csn) vg (msgsN j) s.g)) (fun _ _ vi _ => 400 - (intOf vi).toNat)
      case atStart => exact ⟨0, ⟨lost, gaveN win first j, newN win 40 5 2 first, []⟩, _, _, _, _, _, by omega, rfl, rfl, HStart.out, HLB.out.1, HLB.out.2, by simp, HT2.out⟩
      case round =>
        obtain ⟨i, s, col2, pa2, qa2, pb2, qb2, hi, rfl, rfl, HI⟩ := hrel
        clear HT2 HStart
        by_cases hlt : i < 400
        · have hltz : (i : Int) < 400 := by omega
          have hInv := HI.out.1.step HF.out (by rw [msgsN_len]; exact HN.out) (fun x hx => by rw [msgsN_size j x hx]; decide)
          have HInv := hid hInv
          obtain ⟨lam, A, B, g⟩ := s
          have hlm := HI.out.2.1
          have hlm3 := HI.out.2.2.1
          have HGl := hid HI.out.2.2.2.1
          have HT := hid HI.out.2.2.2.2
          dsimp only at hlm hlm3 HGl HT ⊢
          obtain ⟨XO, hXO⟩ : ∃ XO, XO = outN A := ⟨_, rfl⟩
          have hX := out_any HT.out.mA HT.out.gA
          have hXg := good_outN HT.out.gA
          have hXf := outN_few HT.out.gA
          rw [← hXO] at hX hXg hXf
          obtain ⟨A1, X⟩ := XO
          dsimp only at hX hXg hXf
          have HX := hid hX
          have HXg := hid hXg
          have HXO := hid hXO.symm
          clear hInv hX hXg hXO HI
          go_upto_region 18 with fail
          go_wp2_with fail
          refine (HX.out).mono ?_
          rintro e w4 ⟨vx, pa4, qa4, rfl, hn4, hox⟩
          have HT4 := hid (HT.out.stepA hn4 HXg.out)
          have HOX := hid (hox.mono HT.out.kept.size)
          obtain ⟨px, cx, hvx⟩ := own_slice hox
          subst hvx
          clear hn4 hox HT HX
          obtain ⟨E, hE⟩ : ∃ E, E = eatN X lam B g := ⟨_, rfl⟩
          have HE := hid hE
          have HE0 := hid hE
          clear hE
          go_upto_region 20 with fail
          go_loopw [3, 14, 19] (fun vl vg vk wx => ∃ (k : Nat) (lamj : Int) (Bj : Cn) (gj : List ByteArray) (col : Nat → Nat) (pb qb : Value), k ≤ X.length ∧ vk = .int .i64 (k : Int) ∧ vl = .int .i64 lamj ∧ 0 ≤ lamj ∧ lamj ≤ 3 ∧ Hid (eatN (X.drop k) lamj Bj gj = E ∧ gj.length ≤ 100 * i + k ∧ TwoE col w wx a b A1 Bj pa4 qa4 pb qb (.slice psn (msgsN j).length csn) vg (msgsN j) gj ∧ OwnI wx w.heap.size (.slice px X.length cx) X)) (fun _ _ vk _ => X.length - (intOf vk).toNat)
          case atStart => exact ⟨0, lam, B, g, _, _, _, Nat.zero_le _, rfl, rfl, hlm, hlm3, by rw [List.drop_zero]; exact HE.out.symm, by have := HGl.out; omega, HT4.out, HOX.out⟩
          case round =>
            obtain ⟨k, lamj, Bj, gj, col5, pb5, qb5, hk, rfl, rfl, hl0, hl3, HJ⟩ := hrel
            clear HT4 HOX HE HGl
            by_cases hkl : k < X.length
            · have hklz : (k : Int) < (X.length : Int) := by omega
              obtain ⟨x, hx⟩ : ∃ x, X[k]? = some x := ⟨X[k], by simp [hkl]⟩
              have hE2 := HJ.out.1
              rw [drop_cons' hx, eatN_cons] at hE2
              have HE2 := hid hE2
              clear hE2
              by_cases hlam : 0 < lamj
              · have wl : IntKind.i64.wrap (lamj - 1) = lamj - 1 := by rw [IntKind.wrap_i64]; omega
                have hE3 := HE2.out
                rw [if_pos hlam] at hE3
                have HR : Hid (eatN (X.drop (k + 1)) (lamj - 1) Bj gj = E ∧ gj.length ≤ 100 * i + (k + 1) ∧ _ ∧ _) := ⟨hE3, Nat.le_trans HJ.out.2.1 (by omega), HJ.out.2.2.1, HJ.out.2.2.2⟩
                have hb1 : 0 ≤ lamj - 1 ∧ lamj - 1 ≤ 3 := ⟨by omega, by omega⟩
                clear hE3 HE2 HJ hx
                go_wp2
                exact ⟨⟨k + 1, lamj - 1, Bj, gj, _, _, _, hkl, by go_num, rfl, hb1.1, hb1.2, HR⟩, by simp [intOf]; omega⟩
              · have hE3 := HE2.out
                rw [if_neg hlam] at hE3
                have HE3 := hid hE3
                obtain ⟨gx, rfl, hxc, x0, x1, x2⟩ := item_at HJ.out.2.2.2 hx
                have hTk := take_any HJ.out.2.2.1.mB HJ.out.2.2.1.gB x
                have hTg := good_takeN HJ.out.2.2.1.gB x
                have hTf := takeN_few Bj x
                obtain ⟨TK, hTK⟩ : ∃ TK, TK = takeN Bj x := ⟨_, rfl⟩
                rw [← hTK] at hTk hTg hTf HE3
                obtain ⟨B6, L6⟩ := TK
                dsimp only at hTk hTg hTf HE3
                unfold iteV at hTk
                have HTk := hid hTk
                have HTg := hid hTg
                have HT5 := hid HJ.out.2.2.1
                have HOX5 := hid HJ.out.2.2.2
                have HGl5 := hid HJ.out.2.1
                obtain ⟨pg, cg, hvg⟩ := own_slice HT5.out.g
                subst hvg
                rw [Nat.add_zero] at x0
                clear hE3 HE2 hTk hTg hTK HJ hx
                go_wp2_with fail
                refine (HTk.out).mono ?_
                rintro e w6 ⟨vo6, pb6, qb6, rfl, hn6, ho6, hsep⟩
                have HT6 := hid (HT5.out.stepB hn6 HTg.out)
                have HOX6 := hid (hn6.own HOX5.out (fun q hq => HT5.out.mB.unlikeI HOX5.out hq))
                obtain ⟨p6, c6, hv6⟩ := own_slice ho6
                subst hv6
                obtain ⟨v7, w7, happ, ho7, hk7, hn7⟩ := push_list tyS encS_ok HT6.out.g HT6.out.kept.size ho6 (by have := HGl5.out; omega)
                have HT7 := hid (HT6.out.growG ho7 hk7 hn7)
                have HOX7 := hid (HOX6.out.byTexts HT6.out.g hk7)
                obtain ⟨p7, c7, hv7⟩ := own_slice ho7
                subst hv7
                have hGl7 : (gj ++ L6).length ≤ 100 * i + (k + 1) := by
                  have := HGl5.out
                  rw [List.length_append]
                  omega
                have Happ : Hid (∀ ty, (Builtin.append_ #[29, 29] ty #[.slice pg gj.length cg, .slice p6 L6.length c6]).run Try.prog w6 = .ok (.slice p7 (gj ++ L6).length c7) w7) := happ
                have HR : Hid (eatN (X.drop (k + 1)) lamj B6 (gj ++ L6) = E ∧ (gj ++ L6).length ≤ 100 * i + (k + 1) ∧ _ ∧ _) := ⟨HE3.out, hGl7, HT7.out, HOX7.out⟩
                generalize hq7 : (gj ++ L6).length = n7 at *
                generalize hq5 : gj.length = n5 at *
                generalize hq6 : L6.length = n6 at *
                have HQ7 := hid hq7
                clear hq7 hq5 hq6 happ ho7 hk7 hn7 hn6 ho6 hsep hGl7 hTf HT5 HT6 HT7 HOX5 HOX6 HOX7 HE3 HGl5 HTk HTg x0 x1 x2
                go_wp2_with (at_builtin; refine Lib.wpList_append_run _ rfl _ _ _ _ rfl _ _ rfl rfl _ _ (Happ.out _) ?_)
                go_wp2
                exact ⟨⟨k + 1, lamj, B6, gj ++ L6, _, _, _, hkl, by go_num, rfl, hl0, hl3, ⟨HR.out.1, by rw [HQ7.out]; exact HR.out.2.1, HR.out.2.2⟩⟩, by simp [intOf]; omega⟩
            · have hklz : ¬ (k : Int) < (X.length : Int) := by omega
              obtain rfl : k = X.length := by omega
              have hE2 := HJ.out.1
              rw [List.drop_length] at hE2
              have HE2 : Hid (eatN X lam B g = (lamj, Bj, gj)) := HE0.out.symm.trans hE2.symm
              have HG2 := hid HJ.out.2.1
              have HT5 := hid HJ.out.2.2.1
              clear hE2 HJ
              obtain ⟨YO, hYO⟩ : ∃ YO, YO = outN Bj := ⟨_, rfl⟩
              have hY := out_any HT5.out.mB HT5.out.gB
              have hYg := good_outN HT5.out.gB
              have hYf := outN_few HT5.out.gB
              rw [← hYO] at hY hYg hYf
              obtain ⟨B1, Y⟩ := YO
              dsimp only at hY hYg hYf
              have HY := hid hY
              have HYg := hid hYg
              have HYO := hid hYO.symm
              clear hY hYg hYO
              obtain ⟨pg, cg, hvg⟩ := own_slice HT5.out.g
              subst hvg
              go_upto_region 25 with fail
              go_wp2_with fail
              refine (HY.out).mono ?_
              rintro e w6 ⟨vy, pb6, qb6, rfl, hn6, hoy⟩
              have HT6 := hid (HT5.out.stepB hn6 HYg.out)
              have HOY := hid (hoy.mono HT5.out.kept.size)
              obtain ⟨py, cy, hvy⟩ := own_slice hoy
              subst hvy
              clear hn6 hoy HT5 HY
              obtain ⟨D, hD⟩ : ∃ D, D = drinkN Y A1 := ⟨_, rfl⟩
              have HD := hid hD
              clear hD
              go_upto_region 27 with fail
              go_loopw [21] (fun vk wx => ∃ (q : Nat) (Aj : Cn) (col : Nat → Nat) (pa qa : Value), q ≤ Y.length ∧ vk = .int .i64 (q : Int) ∧ Hid (drinkN (Y.drop q) Aj = D ∧ TwoE col w wx a b Aj B1 pa qa pb6 qb6 (.slice psn (msgsN j).length csn) (.slice pg gj.length cg) (msgsN j) gj ∧ OwnI wx w.heap.size (.slice py Y.length cy) Y)) (fun vk _ => Y.length - (intOf vk).toNat)
              case atStart => exact ⟨0, A1, _, _, _, Nat.zero_le _, rfl, by rw [List.drop_zero]; exact HD.out.symm, HT6.out, HOY.out⟩
              case round =>
                obtain ⟨q, Aj, col7, pa7, qa7, hq, rfl, HZ⟩ := hrel
                clear HT6 HOY
                by_cases hql : q < Y.length
                · have hqlz : (q : Int) < (Y.length : Int) := by omega
                  obtain ⟨y, hy⟩ : ∃ y, Y[q]? = some y := ⟨Y[q], by simp [hql]⟩
                  have hD2 := HZ.out.1
                  rw [drop_cons' hy] at hD2
                  have HD2 : Hid (drinkN (Y.drop (q + 1)) (takeN Aj y).1 = D) := hD2
                  obtain ⟨gy, rfl, hyc, y0, y1, y2⟩ := item_at HZ.out.2.2 hy
                  have hTk := take_any HZ.out.2.1.mA HZ.out.2.1.gA y
                  have hTg := good_takeN HZ.out.2.1.gA y
                  obtain ⟨TK, hTK⟩ : ∃ TK, TK = takeN Aj y := ⟨_, rfl⟩
                  rw [← hTK] at hTk hTg HD2
                  obtain ⟨A6, L6⟩ := TK
                  dsimp only at hTk hTg HD2
                  unfold iteV at hTk
                  have HTk := hid hTk
                  have HTg := hid hTg
                  have HT7 := hid HZ.out.2.1
                  have HOY7 := hid HZ.out.2.2
                  rw [Nat.add_zero] at y0
                  clear hD2 hTk hTg hTK HZ hy
                  go_wp2_with fail
                  refine (HTk.out).mono ?_
                  rintro e w8 ⟨vo8, pa8, qa8, rfl, hn8, -, -⟩
                  have HT8 := hid (HT7.out.stepA hn8 HTg.out)
                  have HOY8 := hid (hn8.own HOY7.out (fun z hz => HT7.out.mA.unlikeI HOY7.out hz))
                  clear hn8 HT7 HOY7 HTk HTg y0 y1 y2
                  go_wp2
                  exact ⟨⟨q + 1, A6, _, _, _, hql, by go_num, HD2.out, HT8.out, HOY8.out⟩, by simp [intOf]; omega⟩
                · have hqlz : ¬ (q : Int) < (Y.length : Int) := by omega
                  obtain rfl : q = Y.length := by omega
                  have hD2 := HZ.out.1
                  rw [List.drop_length] at hD2
                  have HD2 : Hid (drinkN Y A1 = Aj) := HD.out.symm.trans hD2.symm
                  have HT7 := hid HZ.out.2.1
                  have HTA := hid (tick_any HT7.out.mA HT7.out.gA)
                  clear hD2 HZ
                  go_wp2_with fail
                  refine (HTA.out).mono ?_
                  rintro e w8 ⟨rfl, hn8⟩
                  have HT8 := hid (HT7.out.stepA hn8 (good_tickN HT7.out.gA))
                  have HTB := hid (tick_any HT8.out.mB HT8.out.gB)
                  clear hn8 HT7 HTA
                  go_wp2_with fail
                  refine (HTB.out).mono ?_
                  rintro e w9 ⟨rfl, hn9⟩
                  have HT9 := hid (HT8.out.stepB hn9 (good_tickN HT8.out.gB))
                  have hrf : roundF ⟨lam, A, B, g⟩ = ⟨lamj, tickN Aj, tickN B1, gj⟩ := by
                    unfold roundF
                    simp only [HXO.out, HE2.out, HYO.out, HD2.out]
                  have HIN : Hid (InvF (msgsN j) win first (i + 1) ⟨lamj, tickN Aj, tickN B1, gj⟩) := by
                    have := HInv.out
                    rw [hrf] at this
                    exact this
                  have HG3 : Hid (gj.length ≤ 100 * (i + 1)) := by
                    show _ ≤ _
                    have := HG2.out
                    omega
                  clear hn9 HT8 HTB hrf
                  go_wp2
                  exact ⟨⟨i + 1, ⟨lamj, tickN Aj, tickN B1, gj⟩, _, _, _, _, _, hlt, by go_num, rfl, HIN.out, hl0, hl3, HG3.out, HT9.out⟩, by simp [intOf]; omega⟩
        · have hltz : ¬ (i : Int) < 400 := by omega
          obtain rfl : i = 400 := by omega
          obtain ⟨d1, d2, d3, d4, d5⟩ := HI.out.1.done
          have HT := hid HI.out.2.2.2.2
          obtain ⟨lam, A, B, g⟩ := s
          dsimp only at d1 d2 d3 d4 d5 HT ⊢
          clear HI
          subst d1
          obtain ⟨pg, cg, hvg⟩ := own_slice HT.out.g
          subst hvg
          obtain ⟨pw, cw, hvw⟩ := own_slice HT.out.mA.rw
          obtain ⟨pf, cf, hvf⟩ := own_slice HT.out.mA.rf
          subst hvw hvf
          have HSm := hid (fun W (hk : Kept (fun _ => False) wr W) => sameTexts_eq _ _ (msgsN j) W ((OwnG.rd HT.out.g).kept hk) ((OwnG.rd HT.out.s).kept hk) (by rw [msgsN_len]; omega))
          have HWa := hid (fun W (hk : Kept (fun _ => False) wr W) => waiting_at a A.waits.length pw cw W ((HT.out.mA.kept0 hk).blk.cell 9))
          have HFl := hid (fun W (hk : Kept (fun _ => False) wr W) => flying_at a A.flies.length pf cf W ((HT.out.mA.kept0 hk).blk.cell 10))
          have HDa := hid (fun W (hk : Kept (fun _ => False) wr W) => dead_any a A _ _ W (HT.out.mA.kept0 hk).blk HT.out.gA.wait.1)
          have HDb := hid (fun W (hk : Kept (fun _ => False) wr W) => dead_any b B _ _ W (HT.out.mB.kept0 hk).blk HT.out.gB.wait.1)
          rw [d4] at HDa
          rw [d5] at HDb
          rw [d2] at HWa
          rw [d3] at HFl
          rw [List.length_nil] at HWa HFl
          have HKw := hid HT.out.kept
          generalize (msgsN j).length = nm at *
          clear d2 d3 d4 d5 HT
          go_wp2_with fail
          refine (HA.out _).mono ?_
          rintro e w4 ⟨rfl, hk4⟩
          have HK4 := hid hk4
          clear hk4 HA
          go_wp2_with fail
          refine (HSm.out _ HK4.out).mono ?_
          rintro e w5 ⟨rfl, hk5⟩
          have HK5 := hid (HK4.out.trans hk5)
          clear hk5 HSm HK4
          go_wp2_with fail
          refine (HWa.out _ HK5.out).mono ?_
          rintro e w6 ⟨rfl, hq⟩
          rw [hq]
          clear hq w6 HWa
          go_wp2_with fail
          refine (HFl.out _ HK5.out).mono ?_
          rintro e w6 ⟨rfl, hq⟩
          rw [hq]
          clear hq w6 HFl
          go_wp2_with fail
          refine (HDa.out _ HK5.out).mono ?_
          rintro e w6 ⟨rfl, hq⟩
          rw [hq]
          clear hq w6 HDa
          go_wp2_with fail
          refine (HDb.out _ HK5.out).mono ?_
          rintro e w6 ⟨rfl, hq⟩
          rw [hq]
          clear hq w6 HDb
          go_wp2
          go_returns
          exact ⟨rfl, (HKw.out.trans HK5.out).below (Nat.le_refl _) (fun _ f => f.elim)⟩
end Go.Proofs.Ytoflohomnoppnaa
