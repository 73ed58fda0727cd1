/- The law NegAdopts: it returns true for every two lists of options, begun or not, and leaves what was there. -/
import Derived.Test.YtodgkmjiiijfpaaNgAdopt
import Derived.Test.YtodgkmjiiijfpaaNgSetup
namespace Go.Proofs.Ytodgkmjiiijfpaa
open Go.RowKit

def nD0 : Ng := newN [optA] [rule1] [rule1] 5 2 3 2
def nD1 : Ng := { nD0 with au := ⟨5, 2, 1, 0⟩ }
def nD2 : Ng := { nD0 with au := ⟨5, 2, 6, 4⟩, id := 1, last := 1, begun := true }
def nD9 (la lb : List Tg) : Ng := { nD0 with au := ⟨5, 2, 9, 5⟩, mine := la, theirs := lb, ups := 1 }
def nD10 (la lb : List Tg) : Ng := { nD0 with au := ⟨5, 2, 4, 1⟩, mine := la, theirs := lb, ups := 1, downs := 1, id := 1 }
theorem stepD1 : doN nD0 2 = (nD1, []) := by kernel_rfl
theorem stepD2 : doN nD1 0 = (nD2, [⟨1, 1, [optA], ⟨#[]⟩⟩]) := by kernel_rfl
theorem stepD3 (la lb : List Tg) : skipN { nD0 with mine := la, theirs := lb } = nD9 la lb := by kernel_rfl
theorem stepD4 (la lb : List Tg) : doN (nD9 la lb) 3 = (nD10 la lb, [⟨5, 1, [], ⟨#[]⟩⟩]) := by kernel_rfl

set_option maxHeartbeats 8000000 in
set_option maxRecDepth 100000 in
theorem negAdopts_walk (va : Value) (la : List Tg) (vb : Value) (lb : List Tg) (begun : Bool) (w : World) (ha : OptsAt w va la) (hna : la.length ≤ maxLen) (hsa : ∀ z ∈ la, z.value.size ≤ 140737488351232) (ha64 : ∀ x ∈ la, In64 x.type) (hb : OptsAt w vb lb) (hnb : lb.length ≤ maxLen) (hsb : ∀ z ∈ lb, z.value.size ≤ 140737488351232) (hb64 : ∀ x ∈ lb, In64 x.type) :
    Calls Try.prog 4 #[va, vb, .bool begun] w fun e w' => e = .returned (.bool true) ∧ Below w.heap.size w w' := by
  have Ha := hid lawAlive_any
  unfold maxLen at hna hnb
  obtain ⟨pa, ca, hva⟩ := ha.1.slice
  obtain ⟨pb, cb, hvb⟩ := hb.1.slice
  by_cases z1 : 30 < la.length
  · have z1z : (30 : Int) < (la.length : Int) := by omega
    subst hva hvb
    clear ha hb hsa hsb ha64 hb64
    go_enter Try.func4, Try.ntmps4
    go_wp2_with fail
    refine (Ha.out _).mono ?_
    rintro e w2 ⟨rfl, hk2⟩
    go_wp2
    go_ret
    exact ⟨rfl, below_of hk2⟩
  · have z1z : ¬ (30 : Int) < (la.length : Int) := by omega
    by_cases z2 : 30 < lb.length
    · have z2z : (30 : Int) < (lb.length : Int) := by omega
      subst hva hvb
      clear ha hb hsa hsb ha64 hb64
      go_enter Try.func4, Try.ntmps4
      go_wp2_with fail
      refine (Ha.out _).mono ?_
      rintro e w2 ⟨rfl, hk2⟩
      go_wp2
      go_ret
      exact ⟨rfl, below_of hk2⟩
    · have z2z : ¬ (30 : Int) < (lb.length : Int) := by omega
      have FA := hid (show FineO la from ⟨by omega, ha64, hsa⟩)
      have FB := hid (show FineO lb from ⟨by omega, hb64, hsb⟩)
      have HA := hid (fun (W : World) (k : Kept (fun _ => False) w W) => ha.kept0 k)
      have HB := hid (fun (W : World) (k : Kept (fun _ => False) w W) => hb.kept0 k)
      have HPa := hid (putOpts_any va la w ha.1 hsa)
      have HPb := hid (fun (W : World) (k : Kept (fun _ => False) w W) => putOpts_any vb lb W (hb.1.kept0 k) hsb)
      have eErr : errF la lb = if (putOptsF la).2 ≠ 0 then (putOptsF la).2 else (putOptsF lb).2 := rfl
      generalize (putOptsF la).2 = E1 at *
      generalize (putOptsF lb).2 = E2 at *
      generalize (⟨(putOptsF la).1.toArray⟩ : ByteArray) = B1 at *
      generalize (⟨(putOptsF lb).1.toArray⟩ : ByteArray) = B2 at *
      have EE := hid eErr
      have HSu := hid (fun W => lawSetup_any ⟨#[5, 0]⟩ 3 W)
      unfold setupV at HSu
      subst hva hvb
      clear ha hb hsa hsb ha64 hb64 eErr
      go_enter Try.func4, Try.ntmps4
      go_wp2_with fail
      refine HPa.out.mono ?_
      rintro e w1 ⟨rfl, hk1⟩
      have K1 := hid hk1
      clear hk1 HPa
      go_wp2_with fail
      refine (HPb.out _ K1.out).mono ?_
      rintro e w2 ⟨rfl, hk2⟩
      have K2 := hid (K1.out.trans hk2)
      clear hk2 HPb K1
      go_wp2_with fail
      refine (HSu.out _).mono ?_
      rintro e w3 ⟨v1, v2, v3, rfl, hoa, hra, hrp, hk3⟩
      have HNew := hid (ngNew_any v1 v2 v3 [optA] [rule1] [rule1] 5 2 3 2 w3 hoa hra hrp (by decide) (by decide) (by decide) (by decide) (fine1 ⟨by decide, by decide⟩ (by decide)) (by kernel_rfl) (alone1 _) good1 good1)
      unfold setupV at HNew
      have K3 := hid (K2.out.trans hk3)
      obtain ⟨p1, c1, rfl⟩ := hoa.1.slice
      obtain ⟨p2, c2, rfl⟩ := hra.slice
      obtain ⟨p3, c3, rfl⟩ := hrp.slice
      clear hoa hra hrp hk3 HSu K2
      go_wp2_with fail
      refine HNew.out.mono ?_
      rintro e w4 ⟨b, rfl, a, hn, hk4⟩
      have M4 : Hid (NMine w w4 b a nD0) := ⟨hn.lower K3.out.size, K3.out.trans hk4⟩
      have hE := eqNegSome ⟨b, 0, none⟩
      clear hn hk4 K3 HNew
      cases begun with
      | true =>
        have HD := hid (ngDo_any 2 w4 M4.out.neg)
        rw [stepD1] at HD
        go_wp2_with fail
        refine HD.out.mono ?_
        rintro e w5 ⟨vo, rfl, S5⟩
        obtain ⟨a5, p5, c5, rfl, N5⟩ := sent_zero S5
        have M5 := hid (M4.out.next N5)
        clear S5 N5 HD M4
        have HD := hid (ngDo_any 0 w5 M5.out.neg)
        rw [stepD2] at HD
        go_wp2_with fail
        refine HD.out.mono ?_
        rintro e w6 ⟨vo, rfl, S6⟩
        obtain ⟨a6, g6, c6, u6, rfl, hc6, N6, _, _, _, _⟩ := sent_one S6
        have M6 := hid (M5.out.next N6)
        clear S6 N6 HD M5
        go_wp2_with fail
        refine (Ha.out _).mono ?_
        rintro e w7 ⟨rfl, hk7⟩
        have M7 := hid (M6.out.still hk7)
        have HAd := hid (adopt_late (.slice pa la.length ca) (.slice pb lb.length cb) w7 M7.out.neg (by decide) (by decide))
        have HSt := hid (ngState_any w7 M7.out.neg)
        rw [show nD2.au.st = 6 from rfl] at HSt
        clear hk7 M6
        go_wp2_with (first
          | (go_at_call 17; refine HAd.out.mono ?_; rintro e w' ⟨rfl, hw⟩; rw [hw]; clear hw w')
          | (go_at_call 14; refine HSt.out.mono ?_; rintro e w' ⟨rfl, hw⟩; rw [hw]; clear hw w'))
        go_ret
        exact ⟨rfl, below_of M7.out.kept⟩
      | false =>
        have HAd := hid (adopt_any (.slice pa la.length ca) (.slice pb lb.length cb) la lb w4 M4.out.neg rfl (HA.out _ M4.out.kept) (HB.out _ M4.out.kept) FA.out FB.out)
        go_wp2_with fail
        refine HAd.out.mono ?_
        rintro e w5 h5
        rcases h5 with ⟨hne, rfl, hk5⟩ | ⟨heq, rfl, a5, N5⟩
        · have M5 := hid (M4.out.still hk5)
          have hcase : (E1 != 0) = true ∨ ((E1 != 0) = false ∧ (E2 != 0) = true) := by
            by_cases h1 : E1 = 0
            · refine Or.inr ⟨by simp [h1], ?_⟩
              rw [EE.out, if_neg (by simp [h1])] at hne
              simpa using hne
            · exact Or.inl (by simpa using h1)
          have hnz : (errF la lb != 0) = true := by simpa using hne
          have HSt := hid (fun (W : World) (k : Kept (fun _ => False) w5 W) => ngState_any W (M5.out.neg.kept0 k))
          rw [show nD0.au.st = 0 from rfl] at HSt
          generalize errF la lb = ER at *
          clear hne hk5 HAd M4
          rcases hcase with q1 | ⟨q1, q2⟩
          all_goals
            go_wp2_with fail
            refine (Ha.out _).mono ?_
            rintro e w6 ⟨rfl, hk6⟩
            have KF := hid (M5.out.kept.trans hk6)
            have HSt6 := hid (HSt.out _ hk6)
            clear hk6
            go_wp2_with (first
              | (go_at_call 14; refine HSt6.out.mono ?_; rintro e w' ⟨rfl, hw⟩; rw [hw]; clear hw w'))
            go_ret
            exact ⟨rfl, below_of KF.out⟩
        · rw [EE.out] at heq
          have q1 : E1 = 0 := by
            by_cases h1 : E1 = 0
            · exact h1
            · rw [if_pos h1] at heq
              exact absurd heq h1
          have q2 : E2 = 0 := by rw [if_neg (by simp [q1])] at heq; exact heq
          subst q1 q2
          rw [stepD3] at N5
          have M5 := hid (M4.out.next N5)
          clear heq N5 HAd M4
          have HUp := hid (ngUps_any w5 M5.out.neg)
          rw [show (nD9 la lb).ups = 1 from rfl, show (nD9 la lb).downs = 0 from rfl] at HUp
          go_wp2_with fail
          refine HUp.out.mono ?_
          rintro e w6 ⟨rfl, hk6⟩
          have M6 := hid (M5.out.still hk6)
          have HSt := hid (ngState_any w6 M6.out.neg)
          rw [show (nD9 la lb).au.st = 9 from rfl] at HSt
          have HMi := hid (ngMine_any w6 M6.out.neg)
          rw [show mineF (nD9 la lb) = la from rfl] at HMi
          clear hk6 HUp M5
          go_wp2_with (first
            | (go_at_call 14; refine HSt.out.mono ?_; rintro e w' ⟨rfl, hw⟩; rw [hw]; clear hw w'))
          refine HMi.out.mono ?_
          rintro e w7 ⟨u7, rfl, ho7, hk7⟩
          obtain ⟨p7, c7, rfl⟩ := slice_of ho7
          have M7 := hid (M6.out.still hk7)
          have HSa := hid (sameO_any _ _ la la w7 ho7.tags (HA.out _ M7.out.kept).1 (by omega))
          rw [sameF_self] at HSa
          clear ho7 hk7 HMi M6 HSt
          go_wp2_with fail
          refine HSa.out.mono ?_
          rintro e w8 ⟨rfl, hk8⟩
          have M8 := hid (M7.out.still hk8)
          have HTh := hid (ngTheirs_any w8 M8.out.neg)
          rw [show theirsF (nD9 la lb) = lb from rfl] at HTh
          clear hk8 HSa M7
          go_wp2_with fail
          refine HTh.out.mono ?_
          rintro e w9 ⟨u9, rfl, ho9, hk9⟩
          obtain ⟨p9, c9, rfl⟩ := slice_of ho9
          have M9 := hid (M8.out.still hk9)
          have HSb := hid (sameO_any _ _ lb lb w9 ho9.tags (HB.out _ M9.out.kept).1 (by omega))
          rw [sameF_self] at HSb
          clear ho9 hk9 HTh M8
          go_wp2_with fail
          refine HSb.out.mono ?_
          rintro e w10 ⟨rfl, hk10⟩
          have M10 := hid (M9.out.still hk10)
          have HD := hid (ngDo_any 3 w10 M10.out.neg)
          rw [stepD4] at HD
          clear hk10 HSb M9
          go_wp2_with fail
          refine HD.out.mono ?_
          rintro e w11 ⟨vo, rfl, S11⟩
          obtain ⟨a11, g11, c11, u11, rfl, hc11, N11, R11, _, _, _⟩ := sent_one S11
          have M11 := hid (M10.out.next N11)
          have R11 := hid R11
          clear S11 N11 HD M10
          go_wp2_with fail
          refine (Ha.out _).mono ?_
          rintro e w12 ⟨rfl, hk12⟩
          have M12 := hid (M11.out.still hk12)
          obtain ⟨_, t0, t1, _, _⟩ := R11.out.kept hk12 id
          have HSt := hid (ngState_any w12 M12.out.neg)
          rw [show (nD10 la lb).au.st = 4 from rfl] at HSt
          have HMi := hid (ngMine_any w12 M12.out.neg)
          rw [show mineF (nD10 la lb) = [] from rfl] at HMi
          clear hk12 M11 R11
          go_wp2_with (first
            | (go_at_call 14; refine HSt.out.mono ?_; rintro e w' ⟨rfl, hw⟩; rw [hw]; clear hw w'))
          refine HMi.out.mono ?_
          rintro e w13 ⟨u13, rfl, ho13, hk13⟩
          obtain ⟨p13, c13, rfl⟩ := slice_of ho13
          have KF := hid (M12.out.kept.trans hk13)
          clear ho13 hk13
          go_wp2
          go_ret
          exact ⟨rfl, below_of KF.out⟩
end Go.Proofs.Ytodgkmjiiijfpaa
