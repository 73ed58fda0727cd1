/- The law AutoMeets: it returns true, whoever begins, and leaves what was there. -/
import Derived.Test.YtfilfagnljpgcaaAuMeet
namespace Go.Proofs.Ytfilfagnljpgcaa
open Go.RowKit

structure St where
  ca : Au
  cb : Au
  x : List Int
  y : List Int
def hearB (first : Bool) (i : Nat) (s : St) : List Int × Au := if (i == 0 && !first) then doF (hearL s.cb s.x).1 0 else ((hearL s.cb s.x).2, (hearL s.cb s.x).1)
def roundF (first : Bool) (i : Nat) (s : St) : St :=
  if (hearB first i s).1.length + (hearL s.ca s.y).2.length = 0 then ⟨(timeF (hearL s.ca s.y).1).2, (timeF (hearB first i s).2).2, (timeF (hearL s.ca s.y).1).1, (timeF (hearB first i s).2).1⟩
  else ⟨(hearL s.ca s.y).1, (hearB first i s).2, (hearL s.ca s.y).2, (hearB first i s).1⟩
def c2 : Au := (doF (newA 5 2) 2).2
def startS (first : Bool) : St := ⟨(doF c2 0).2, if first then (doF c2 0).2 else c2, (doF c2 0).1, if first then (doF c2 0).1 else []⟩
def runS (first : Bool) : Nat → St
  | 0 => startS first
  | i + 1 => roundF first i (runS first i)
def smallB (s : St) : Bool := decide (s.x.length ≤ 9) && decide (s.y.length ≤ 9)
theorem run_small (first : Bool) {i : Nat} (hi : i ≤ 12) : (runS first i).x.length ≤ 9 ∧ (runS first i).y.length ≤ 9 := by
  have h : (List.range 13).all (fun i => smallB (runS first i)) = true := by cases first <;> kernel_rfl
  have := List.all_eq_true.1 h i (List.mem_range.2 (by omega))
  simpa [smallB] using this
theorem run_end (first : Bool) : (runS first 12).ca.st = 9 ∧ (runS first 12).cb.st = 9 := by
  cases first
  · exact ⟨(show (runS false 12).ca.st = 9 from by kernel_rfl), (show (runS false 12).cb.st = 9 from by kernel_rfl)⟩
  · exact ⟨(show (runS true 12).ca.st = 9 from by kernel_rfl), (show (runS true 12).cb.st = 9 from by kernel_rfl)⟩

/-- Behind i rounds. -/
structure MeetIn (w W : World) (first : Bool) (i ba bb : Nat) (vx vy : Value) : Prop where
  duo : Duo w W ba (runS first i).ca bb (runS first i).cb
  x : OwnI W 0 vx (runS first i).x
  y : OwnI W 0 vy (runS first i).y

/-- A round is over. -/
theorem MeetIn.of {w W : World} {first : Bool} {i ba bb : Nat} {vp vq : Value} {ca cb : Au} {p q : List Int} (hd : Duo w W ba ca bb cb) (hq : OwnI W 0 vq q) (hp : OwnI W 0 vp p) (e : roundF first i (runS first i) = ⟨ca, cb, q, p⟩) : MeetIn w W first (i + 1) ba bb vq vp := by
  have e' : runS first (i + 1) = ⟨ca, cb, q, p⟩ := e
  refine ⟨?_, ?_, ?_⟩ <;> rw [e'] <;> assumption

set_option maxHeartbeats 8000000 in
set_option maxRecDepth 100000 in
theorem autoMeets_walk (first : Bool) (w : World) : Calls Try.prog 6 #[.bool first] w fun e w' => e = .returned (.bool true) ∧ Below w.heap.size w w' := by
  have HN := hid (mine_new 5 2 (by decide) (by decide))
  go_enter Try.func6, Try.ntmps6
  go_wp2_with fail
  refine (HN.out w w (Kept.refl _ _)).mono ?_
  rintro e w1 ⟨ba, rfl, hm1, hk1⟩
  have H1 := hid hm1
  clear hm1 hk1
  go_wp2_with fail
  refine (HN.out w1 w1 (Kept.refl _ _)).mono ?_
  rintro e w2 ⟨bb, rfl, hm2, hk2⟩
  have D2 : Hid (Duo w w2 ba (newA 5 2) bb (newA 5 2)) := ⟨H1.out.auto.kept0 hk2, hm2.auto, H1.out.good, hm2.good, H1.out.lo, Nat.le_trans H1.out.kept.size hm2.lo, fun e => by have := H1.out.auto.lt; have := hm2.lo; omega, H1.out.kept.trans hk2⟩
  clear hm2 hk2 H1 HN
  go_wp2_with fail
  refine (do_any ba _ D2.out.ga 2 ⟨by decide, by decide⟩ _ D2.out.a).mono ?_
  rintro e w3 ⟨v3, rfl, ha, _, hk⟩
  have D3 : Hid (Duo w w3 ba c2 bb (newA 5 2)) := D2.out.turn ha (D2.out.ga.do 2) hk
  clear ha hk D2
  go_wp2_with fail
  refine (do_any bb _ D3.out.gb 2 ⟨by decide, by decide⟩ _ D3.out.b).mono ?_
  rintro e w4 ⟨v4, rfl, ha, _, hk⟩
  have D4 : Hid (Duo w w4 ba c2 bb c2) := (D3.out.swap.turn ha (D3.out.gb.do 2) hk).swap
  clear ha hk D3
  go_wp2_with fail
  refine (do_any ba _ D4.out.ga 0 ⟨by decide, by decide⟩ _ D4.out.a).mono ?_
  rintro e w5 ⟨vx, rfl, ha, ho, hk⟩
  have D5 : Hid (Duo w w5 ba (doF c2 0).2 bb c2) := D4.out.turn ha (D4.out.ga.do 0) hk
  have X5 : Hid (OwnI w5 0 vx (doF c2 0).1) := ho.mono (Nat.zero_le _)
  clear ha hk ho D4
  cases first with
  | true =>
    go_wp2_with fail
    refine (do_any bb _ D5.out.gb 0 ⟨by decide, by decide⟩ _ D5.out.b).mono ?_
    rintro e w6 ⟨vy, rfl, ha, ho, hk⟩
    have M0 : Hid (MeetIn w w6 true 0 ba bb vx vy) := ⟨(D5.out.swap.turn ha (D5.out.gb.do 0) hk).swap, D5.out.b.own X5.out hk, ho.mono (Nat.zero_le _)⟩
    clear ha hk ho D5 X5
    go_wp2_with fail
    go_loopw [9, 7, 8] (fun vi vx vy wr => ∃ i : Nat, i ≤ 12 ∧ vi = .int .i64 (i : Int) ∧ Hid (MeetIn w wr true i ba bb vx vy)) (fun vi _ _ _ => 12 - (intOf vi).toNat)
    case atStart => exact ⟨0, by omega, rfl, M0.out⟩
    case round =>
      obtain ⟨i, hi, rfl, HI⟩ := hrel
      clear M0
      by_cases hlt : i < 12
      · have hltz : (i : Int) < 12 := by omega
        obtain ⟨hxs, hys⟩ := run_small true hi
        obtain ⟨s, hs⟩ : ∃ s, s = runS true i := ⟨_, rfl⟩
        have hd := HI.out.duo
        have hx := HI.out.x
        have hy := HI.out.y
        rw [← hs] at hxs hys hd hx hy
        obtain ⟨ca, cb, x, y⟩ := s
        simp only at hxs hys hd hx hy
        obtain ⟨px, capx, rfl⟩ := hx.slice
        obtain ⟨py, capy, rfl⟩ := hy.slice
        have HS := hid hs
        have I1 : Hid (InL w wr wr.heap.size bb cb ba ca [(.slice px x.length capx, x), (.slice py y.length capy, y)] (.slice none 0 0) []) := ⟨hd.swap, hd.kept.size, Nat.le_refl _, fun o ho => by
          rcases List.mem_cons.1 ho with rfl | ho
          · exact Lst.of hx
          · simp at ho
            subst ho
            exact Lst.of hy, OwnI.nil _ _⟩
        clear hs hd hx hy HI
        go_wp2_with fail
        obtain ⟨B, hB⟩ : ∃ B, B = wr.heap.size := ⟨_, rfl⟩
        rw [← hB] at I1
        clear hB
        go_loopw [12, 10] (fun vk vp wq => ∃ k : Nat, k ≤ x.length ∧ vk = .int .i64 (k : Int) ∧ Hid (InL w wq B bb (hearL cb (x.take k)).1 ba ca [(.slice px x.length capx, x), (.slice py y.length capy, y)] vp (hearL cb (x.take k)).2)) (fun vk _ _ => x.length - (intOf vk).toNat)
        case atStart => exact ⟨0, Nat.zero_le _, rfl, I1.out⟩
        case round =>
          obtain ⟨k, hk, rfl, HJ⟩ := hrel
          clear I1
          by_cases hklt : k < x.length
          · have hkz : (k : Int) < (x.length : Int) := by omega
            obtain ⟨a, hax⟩ : ∃ a, x[k]? = some a := ⟨x[k], by simp [hklt]⟩
            obtain ⟨p', cap', ev, hc⟩ := (HJ.out.olds _ (List.mem_cons_self ..)).1.form
            simp only [Value.slice.injEq, true_and] at ev
            obtain ⟨rfl, rfl⟩ := ev
            obtain ⟨g, rfl, hcap, hcell⟩ := hc k a hax
            have hsm := hear_short cb (x.take k)
            rw [List.length_take] at hsm
            have HH := hid (HJ.out.hears a (by omega))
            have HE := hid (hear_take cb hax)
            clear hc hax hsm HJ
            go_wp2_with fail
            refine HH.out.mono ?_
            rintro e w8 ⟨v8, v9, w9, rfl, happ, hin⟩
            have R := hid hin
            clear hin HH
            go_wp2_with (at_builtin; refine Lib.wpList_append_run _ rfl _ _ _ _ rfl _ _ rfl rfl _ _ (happ _) ?_)
            refine ⟨⟨k + 1, hklt, by go_num, ?_⟩, by simp [intOf]; omega⟩
            rw [HE.out]
            exact R.out
          · obtain rfl : k = x.length := by omega
            have hkz : ¬ (x.length : Int) < (x.length : Int) := by omega
            have hJ := HJ.out
            rw [show x.take x.length = x from List.take_length ..] at hJ
            have hps := hear_short cb x
            have HB1 := hid (show hearL cb x = ((hearL cb x).1, (hearL cb x).2) from rfl)
            generalize hcb1 : (hearL cb x).1 = cb1 at hJ HB1
            generalize hpp : (hearL cb x).2 = p at hJ HB1 hps
            obtain ⟨pp, capp, rfl⟩ := hJ.own.slice
            have hdd := hJ.duo.swap
            have I2 : Hid (InL w wr wr.heap.size ba ca bb cb1 [(.slice py y.length capy, y), (.slice pp p.length capp, p)] (.slice none 0 0) []) := ⟨hdd, hdd.kept.size, Nat.le_refl _, fun o ho => by
              rcases List.mem_cons.1 ho with rfl | ho
              · exact Lst.of (hJ.olds _ (List.mem_cons_of_mem _ (List.mem_cons_self ..))).1
              · simp at ho
                subst ho
                exact Lst.of hJ.own, OwnI.nil _ _⟩
            clear hJ HJ hdd hcb1 hpp
            go_wp2_with fail
            obtain ⟨B2, hB2⟩ : ∃ B2, B2 = wr.heap.size := ⟨_, rfl⟩
            rw [← hB2] at I2
            clear hB2
            go_loopw [13, 11] (fun vk vp wq => ∃ k : Nat, k ≤ y.length ∧ vk = .int .i64 (k : Int) ∧ Hid (InL w wq B2 ba (hearL ca (y.take k)).1 bb cb1 [(.slice py y.length capy, y), (.slice pp p.length capp, p)] vp (hearL ca (y.take k)).2)) (fun vk _ _ => y.length - (intOf vk).toNat)
            case atStart => exact ⟨0, Nat.zero_le _, rfl, I2.out⟩
            case round =>
              obtain ⟨k, hk, rfl, HJ⟩ := hrel
              clear I2
              by_cases hklt : k < y.length
              · have hkz : (k : Int) < (y.length : Int) := by omega
                obtain ⟨a, hax⟩ : ∃ a, y[k]? = some a := ⟨y[k], by simp [hklt]⟩
                obtain ⟨p', cap', ev, hc⟩ := (HJ.out.olds _ (List.mem_cons_self ..)).1.form
                simp only [Value.slice.injEq, true_and] at ev
                obtain ⟨rfl, rfl⟩ := ev
                obtain ⟨g, rfl, hcap, hcell⟩ := hc k a hax
                have hsm := hear_short ca (y.take k)
                rw [List.length_take] at hsm
                have HH := hid (HJ.out.hears a (by omega))
                have HE := hid (hear_take ca hax)
                clear hc hax hsm HJ
                go_wp2_with fail
                refine HH.out.mono ?_
                rintro e w8 ⟨v8, v9, w9, rfl, happ, hin⟩
                have R := hid hin
                clear hin HH
                go_wp2_with (at_builtin; refine Lib.wpList_append_run _ rfl _ _ _ _ rfl _ _ rfl rfl _ _ (happ _) ?_)
                refine ⟨⟨k + 1, hklt, by go_num, ?_⟩, by simp [intOf]; omega⟩
                rw [HE.out]
                exact R.out
              · obtain rfl : k = y.length := by omega
                have hkz : ¬ (y.length : Int) < (y.length : Int) := by omega
                have hJ := HJ.out
                rw [show y.take y.length = y from List.take_length ..] at hJ
                have hqs := hear_short ca y
                have HA1 := hid (show hearL ca y = ((hearL ca y).1, (hearL ca y).2) from rfl)
                generalize hca1 : (hearL ca y).1 = ca1 at hJ HA1
                generalize hqq : (hearL ca y).2 = q at hJ HA1 hqs
                obtain ⟨pq, capq, rfl⟩ := hJ.own.slice
                have D := hid hJ.duo
                have LP := hid (hJ.olds _ (List.mem_cons_of_mem _ (List.mem_cons_self ..))).1
                have LQ := hid (hJ.own.mono (Nat.zero_le _))
                clear hJ HJ hca1 hqq
                by_cases hi0 : i = 0
                · subst hi0
                  have hi0b : (((0 : Nat) : Int) == 0) = true := rfl
                  by_cases hz : p.length + q.length = 0
                  · have hzz : ((p.length : Int) + (q.length : Int) == 0) = true := by simp; omega
                    go_wp2_with fail
                    refine (time_any bb _ D.out.gb _ D.out.b).mono ?_
                    rintro e w10 ⟨v10, rfl, ha10, ho10, hk10⟩
                    have D10 := hid ((D.out.swap.turn ha10 D.out.gb.time hk10).swap)
                    clear ha10 hk10
                    have LP10 := hid (ho10.mono (Nat.zero_le _))
                    clear ho10
                    go_wp2_with fail
                    refine (time_any ba _ D10.out.ga _ D10.out.a).mono ?_
                    rintro e w11 ⟨v11, rfl, ha11, ho11, hk11⟩
                    have D11 := hid (D10.out.turn ha11 D10.out.ga.time hk11)
                    have LP11 := hid (D10.out.a.own LP10.out hk11)
                    have LQ11 := hid (ho11.mono (Nat.zero_le _))
                    clear ha11 hk11 ho11
                    have R := hid (MeetIn.of D11.out LQ11.out LP11.out (i := 0) (first := true) (by
                      rw [← HS.out]
                      unfold roundF hearB
                      simp only [HB1.out, HA1.out]
                      simp only [Bool.not_true, Bool.and_false, Bool.false_eq_true, if_false]
                      rw [if_pos (by simpa using hz)]))
                    clear D D10 D11 LP LQ LP10 LP11 LQ11
                    go_wp2
                    exact ⟨⟨0 + 1, hlt, by go_num, R.out⟩, by first | (simp [intOf]; done) | (simp [intOf]; omega)⟩
                  · have hzz : ((p.length : Int) + (q.length : Int) == 0) = false := by simp; omega
                    have R := hid (MeetIn.of D.out LQ.out LP.out (i := 0) (first := true) (by
                      rw [← HS.out]
                      unfold roundF hearB
                      simp only [HB1.out, HA1.out]
                      simp only [Bool.not_true, Bool.and_false, Bool.false_eq_true, if_false]
                      rw [if_neg (by simpa using hz)]))
                    clear D LP LQ
                    go_wp2
                    exact ⟨⟨0 + 1, hlt, by go_num, R.out⟩, by first | (simp [intOf]; done) | (simp [intOf]; omega)⟩
                · have hi0b : ((i : Int) == 0) = false := by simp; omega
                  by_cases hz : p.length + q.length = 0
                  · have hzz : ((p.length : Int) + (q.length : Int) == 0) = true := by simp; omega
                    go_wp2_with fail
                    refine (time_any bb _ D.out.gb _ D.out.b).mono ?_
                    rintro e w10 ⟨v10, rfl, ha10, ho10, hk10⟩
                    have D10 := hid ((D.out.swap.turn ha10 D.out.gb.time hk10).swap)
                    clear ha10 hk10
                    have LP10 := hid (ho10.mono (Nat.zero_le _))
                    clear ho10
                    go_wp2_with fail
                    refine (time_any ba _ D10.out.ga _ D10.out.a).mono ?_
                    rintro e w11 ⟨v11, rfl, ha11, ho11, hk11⟩
                    have D11 := hid (D10.out.turn ha11 D10.out.ga.time hk11)
                    have LP11 := hid (D10.out.a.own LP10.out hk11)
                    have LQ11 := hid (ho11.mono (Nat.zero_le _))
                    clear ha11 hk11 ho11
                    have R := hid (MeetIn.of D11.out LQ11.out LP11.out (i := i) (first := true) (by
                      rw [← HS.out]
                      unfold roundF hearB
                      simp only [HB1.out, HA1.out]
                      simp only [Bool.not_true, Bool.and_false, Bool.false_eq_true, if_false]
                      rw [if_pos (by simpa using hz)]))
                    clear D D10 D11 LP LQ LP10 LP11 LQ11
                    go_wp2
                    exact ⟨⟨i + 1, hlt, by go_num, R.out⟩, by first | (simp [intOf]; done) | (simp [intOf]; omega)⟩
                  · have hzz : ((p.length : Int) + (q.length : Int) == 0) = false := by simp; omega
                    have R := hid (MeetIn.of D.out LQ.out LP.out (i := i) (first := true) (by
                      rw [← HS.out]
                      unfold roundF hearB
                      simp only [HB1.out, HA1.out]
                      simp only [Bool.not_true, Bool.and_false, Bool.false_eq_true, if_false]
                      rw [if_neg (by simpa using hz)]))
                    clear D LP LQ
                    go_wp2
                    exact ⟨⟨i + 1, hlt, by go_num, R.out⟩, by first | (simp [intOf]; done) | (simp [intOf]; omega)⟩
      · obtain rfl : i = 12 := by omega
        have hltz : ¬ ((12 : Nat) : Int) < 12 := by omega
        obtain ⟨e1, e2⟩ := run_end true
        have hD := HI.out.duo
        go_wp2_with fail
        refine (alive_any _).mono ?_
        rintro e w8 ⟨rfl, hk8⟩
        have D8 := hid (hD.still hk8)
        have HS1 := hid (state_any ba _ D8.out.ga _ D8.out.a)
        have HS2 := hid (state_any bb _ D8.out.gb _ D8.out.b)
        rw [e1] at HS1
        rw [e2] at HS2
        have HK := hid D8.out.kept
        clear hD hk8 D8 e1 e2 HI
        go_wp2_with fail
        refine HS1.out.mono ?_
        rintro e w9 ⟨rfl, hw9⟩
        rw [hw9]
        clear hw9 w9
        go_wp2_with fail
        refine HS2.out.mono ?_
        rintro e w9 ⟨rfl, hw9⟩
        rw [hw9]
        clear hw9 w9
        go_wp2
        go_ret
        exact ⟨rfl, below_of HK.out⟩
  | false =>
    have M0 : Hid (MeetIn w w5 false 0 ba bb vx (.slice none 0 0)) := ⟨D5.out, X5.out, OwnI.nil _ _⟩
    clear D5 X5
    go_wp2_with fail
    go_loopw [9, 7, 8] (fun vi vx vy wr => ∃ i : Nat, i ≤ 12 ∧ vi = .int .i64 (i : Int) ∧ Hid (MeetIn w wr false i ba bb vx vy)) (fun vi _ _ _ => 12 - (intOf vi).toNat)
    case atStart => exact ⟨0, by omega, rfl, M0.out⟩
    case round =>
      obtain ⟨i, hi, rfl, HI⟩ := hrel
      clear M0
      by_cases hlt : i < 12
      · have hltz : (i : Int) < 12 := by omega
        obtain ⟨hxs, hys⟩ := run_small false hi
        obtain ⟨s, hs⟩ : ∃ s, s = runS false i := ⟨_, rfl⟩
        have hd := HI.out.duo
        have hx := HI.out.x
        have hy := HI.out.y
        rw [← hs] at hxs hys hd hx hy
        obtain ⟨ca, cb, x, y⟩ := s
        simp only at hxs hys hd hx hy
        obtain ⟨px, capx, rfl⟩ := hx.slice
        obtain ⟨py, capy, rfl⟩ := hy.slice
        have HS := hid hs
        have I1 : Hid (InL w wr wr.heap.size bb cb ba ca [(.slice px x.length capx, x), (.slice py y.length capy, y)] (.slice none 0 0) []) := ⟨hd.swap, hd.kept.size, Nat.le_refl _, fun o ho => by
          rcases List.mem_cons.1 ho with rfl | ho
          · exact Lst.of hx
          · simp at ho
            subst ho
            exact Lst.of hy, OwnI.nil _ _⟩
        clear hs hd hx hy HI
        go_wp2_with fail
        obtain ⟨B, hB⟩ : ∃ B, B = wr.heap.size := ⟨_, rfl⟩
        rw [← hB] at I1
        clear hB
        go_loopw [12, 10] (fun vk vp wq => ∃ k : Nat, k ≤ x.length ∧ vk = .int .i64 (k : Int) ∧ Hid (InL w wq B bb (hearL cb (x.take k)).1 ba ca [(.slice px x.length capx, x), (.slice py y.length capy, y)] vp (hearL cb (x.take k)).2)) (fun vk _ _ => x.length - (intOf vk).toNat)
        case atStart => exact ⟨0, Nat.zero_le _, rfl, I1.out⟩
        case round =>
          obtain ⟨k, hk, rfl, HJ⟩ := hrel
          clear I1
          by_cases hklt : k < x.length
          · have hkz : (k : Int) < (x.length : Int) := by omega
            obtain ⟨a, hax⟩ : ∃ a, x[k]? = some a := ⟨x[k], by simp [hklt]⟩
            obtain ⟨p', cap', ev, hc⟩ := (HJ.out.olds _ (List.mem_cons_self ..)).1.form
            simp only [Value.slice.injEq, true_and] at ev
            obtain ⟨rfl, rfl⟩ := ev
            obtain ⟨g, rfl, hcap, hcell⟩ := hc k a hax
            have hsm := hear_short cb (x.take k)
            rw [List.length_take] at hsm
            have HH := hid (HJ.out.hears a (by omega))
            have HE := hid (hear_take cb hax)
            clear hc hax hsm HJ
            go_wp2_with fail
            refine HH.out.mono ?_
            rintro e w8 ⟨v8, v9, w9, rfl, happ, hin⟩
            have R := hid hin
            clear hin HH
            go_wp2_with (at_builtin; refine Lib.wpList_append_run _ rfl _ _ _ _ rfl _ _ rfl rfl _ _ (happ _) ?_)
            refine ⟨⟨k + 1, hklt, by go_num, ?_⟩, by simp [intOf]; omega⟩
            rw [HE.out]
            exact R.out
          · obtain rfl : k = x.length := by omega
            have hkz : ¬ (x.length : Int) < (x.length : Int) := by omega
            have hJ := HJ.out
            rw [show x.take x.length = x from List.take_length ..] at hJ
            have hps := hear_short cb x
            have HB1 := hid (show hearL cb x = ((hearL cb x).1, (hearL cb x).2) from rfl)
            generalize hcb1 : (hearL cb x).1 = cb1 at hJ HB1
            generalize hpp : (hearL cb x).2 = p at hJ HB1 hps
            obtain ⟨pp, capp, rfl⟩ := hJ.own.slice
            have hdd := hJ.duo.swap
            have I2 : Hid (InL w wr wr.heap.size ba ca bb cb1 [(.slice py y.length capy, y), (.slice pp p.length capp, p)] (.slice none 0 0) []) := ⟨hdd, hdd.kept.size, Nat.le_refl _, fun o ho => by
              rcases List.mem_cons.1 ho with rfl | ho
              · exact Lst.of (hJ.olds _ (List.mem_cons_of_mem _ (List.mem_cons_self ..))).1
              · simp at ho
                subst ho
                exact Lst.of hJ.own, OwnI.nil _ _⟩
            clear hJ HJ hdd hcb1 hpp
            go_wp2_with fail
            obtain ⟨B2, hB2⟩ : ∃ B2, B2 = wr.heap.size := ⟨_, rfl⟩
            rw [← hB2] at I2
            clear hB2
            go_loopw [13, 11] (fun vk vp wq => ∃ k : Nat, k ≤ y.length ∧ vk = .int .i64 (k : Int) ∧ Hid (InL w wq B2 ba (hearL ca (y.take k)).1 bb cb1 [(.slice py y.length capy, y), (.slice pp p.length capp, p)] vp (hearL ca (y.take k)).2)) (fun vk _ _ => y.length - (intOf vk).toNat)
            case atStart => exact ⟨0, Nat.zero_le _, rfl, I2.out⟩
            case round =>
              obtain ⟨k, hk, rfl, HJ⟩ := hrel
              clear I2
              by_cases hklt : k < y.length
              · have hkz : (k : Int) < (y.length : Int) := by omega
                obtain ⟨a, hax⟩ : ∃ a, y[k]? = some a := ⟨y[k], by simp [hklt]⟩
                obtain ⟨p', cap', ev, hc⟩ := (HJ.out.olds _ (List.mem_cons_self ..)).1.form
                simp only [Value.slice.injEq, true_and] at ev
                obtain ⟨rfl, rfl⟩ := ev
                obtain ⟨g, rfl, hcap, hcell⟩ := hc k a hax
                have hsm := hear_short ca (y.take k)
                rw [List.length_take] at hsm
                have HH := hid (HJ.out.hears a (by omega))
                have HE := hid (hear_take ca hax)
                clear hc hax hsm HJ
                go_wp2_with fail
                refine HH.out.mono ?_
                rintro e w8 ⟨v8, v9, w9, rfl, happ, hin⟩
                have R := hid hin
                clear hin HH
                go_wp2_with (at_builtin; refine Lib.wpList_append_run _ rfl _ _ _ _ rfl _ _ rfl rfl _ _ (happ _) ?_)
                refine ⟨⟨k + 1, hklt, by go_num, ?_⟩, by simp [intOf]; omega⟩
                rw [HE.out]
                exact R.out
              · obtain rfl : k = y.length := by omega
                have hkz : ¬ (y.length : Int) < (y.length : Int) := by omega
                have hJ := HJ.out
                rw [show y.take y.length = y from List.take_length ..] at hJ
                have hqs := hear_short ca y
                have HA1 := hid (show hearL ca y = ((hearL ca y).1, (hearL ca y).2) from rfl)
                generalize hca1 : (hearL ca y).1 = ca1 at hJ HA1
                generalize hqq : (hearL ca y).2 = q at hJ HA1 hqs
                obtain ⟨pq, capq, rfl⟩ := hJ.own.slice
                have D := hid hJ.duo
                have LP := hid (hJ.olds _ (List.mem_cons_of_mem _ (List.mem_cons_self ..))).1
                have LQ := hid (hJ.own.mono (Nat.zero_le _))
                clear hJ HJ hca1 hqq
                by_cases hi0 : i = 0
                · subst hi0
                  have hi0b : (((0 : Nat) : Int) == 0) = true := rfl
                  go_wp2_with fail
                  refine (do_any bb _ D.out.gb 0 ⟨by decide, by decide⟩ _ D.out.b).mono ?_
                  rintro e w7 ⟨v7, rfl, ha7, ho7, hk7⟩
                  have D7 := hid ((D.out.swap.turn ha7 (D.out.gb.do 0) hk7).swap)
                  have LQ7 := hid (D.out.b.own LQ.out hk7)
                  have LP7 := hid (ho7.mono (Nat.zero_le _))
                  have hp7 : (doF cb1 0).1.length ≤ 3 := next_short _ _
                  clear D LP LQ ha7 hk7 ho7
                  have HZ := hid (show doF cb1 0 = ((doF cb1 0).1, (doF cb1 0).2) from rfl)
                  generalize (doF cb1 0).2 = cb7 at D7 HZ
                  generalize (doF cb1 0).1 = p7 at LP7 HZ hp7
                  obtain ⟨pp7, capp7, rfl⟩ := LP7.out.slice
                  have D := D7
                  have LP := LP7
                  have LQ := LQ7
                  clear D7 LP7 LQ7
                  by_cases hz : p7.length + q.length = 0
                  · have hzz : ((p7.length : Int) + (q.length : Int) == 0) = true := by simp; omega
                    go_wp2_with fail
                    refine (time_any bb _ D.out.gb _ D.out.b).mono ?_
                    rintro e w10 ⟨v10, rfl, ha10, ho10, hk10⟩
                    have D10 := hid ((D.out.swap.turn ha10 D.out.gb.time hk10).swap)
                    clear ha10 hk10
                    have LP10 := hid (ho10.mono (Nat.zero_le _))
                    clear ho10
                    go_wp2_with fail
                    refine (time_any ba _ D10.out.ga _ D10.out.a).mono ?_
                    rintro e w11 ⟨v11, rfl, ha11, ho11, hk11⟩
                    have D11 := hid (D10.out.turn ha11 D10.out.ga.time hk11)
                    have LP11 := hid (D10.out.a.own LP10.out hk11)
                    have LQ11 := hid (ho11.mono (Nat.zero_le _))
                    clear ha11 hk11 ho11
                    have R := hid (MeetIn.of D11.out LQ11.out LP11.out (i := 0) (first := false) (by
                      rw [← HS.out]
                      unfold roundF hearB
                      simp only [HB1.out, HA1.out]
                      simp only [beq_self_eq_true, Bool.not_false, Bool.and_true, if_true, HZ.out]
                      rw [if_pos (by simpa using hz)]))
                    clear D D10 D11 LP LQ LP10 LP11 LQ11
                    go_wp2
                    exact ⟨⟨0 + 1, hlt, by go_num, R.out⟩, by first | (simp [intOf]; done) | (simp [intOf]; omega)⟩
                  · have hzz : ((p7.length : Int) + (q.length : Int) == 0) = false := by simp; omega
                    have R := hid (MeetIn.of D.out LQ.out LP.out (i := 0) (first := false) (by
                      rw [← HS.out]
                      unfold roundF hearB
                      simp only [HB1.out, HA1.out]
                      simp only [beq_self_eq_true, Bool.not_false, Bool.and_true, if_true, HZ.out]
                      rw [if_neg (by simpa using hz)]))
                    clear D LP LQ
                    go_wp2
                    exact ⟨⟨0 + 1, hlt, by go_num, R.out⟩, by first | (simp [intOf]; done) | (simp [intOf]; omega)⟩
                · have hi0b : ((i : Int) == 0) = false := by simp; omega
                  have hi0n : (i == 0) = false := by simpa using hi0
                  by_cases hz : p.length + q.length = 0
                  · have hzz : ((p.length : Int) + (q.length : Int) == 0) = true := by simp; omega
                    go_wp2_with fail
                    refine (time_any bb _ D.out.gb _ D.out.b).mono ?_
                    rintro e w10 ⟨v10, rfl, ha10, ho10, hk10⟩
                    have D10 := hid ((D.out.swap.turn ha10 D.out.gb.time hk10).swap)
                    clear ha10 hk10
                    have LP10 := hid (ho10.mono (Nat.zero_le _))
                    clear ho10
                    go_wp2_with fail
                    refine (time_any ba _ D10.out.ga _ D10.out.a).mono ?_
                    rintro e w11 ⟨v11, rfl, ha11, ho11, hk11⟩
                    have D11 := hid (D10.out.turn ha11 D10.out.ga.time hk11)
                    have LP11 := hid (D10.out.a.own LP10.out hk11)
                    have LQ11 := hid (ho11.mono (Nat.zero_le _))
                    clear ha11 hk11 ho11
                    have R := hid (MeetIn.of D11.out LQ11.out LP11.out (i := i) (first := false) (by
                      rw [← HS.out]
                      unfold roundF hearB
                      simp only [HB1.out, HA1.out]
                      simp only [hi0n, Bool.false_and, Bool.false_eq_true, if_false]
                      rw [if_pos (by simpa using hz)]))
                    clear D D10 D11 LP LQ LP10 LP11 LQ11
                    go_wp2
                    exact ⟨⟨i + 1, hlt, by go_num, R.out⟩, by first | (simp [intOf]; done) | (simp [intOf]; omega)⟩
                  · have hzz : ((p.length : Int) + (q.length : Int) == 0) = false := by simp; omega
                    have R := hid (MeetIn.of D.out LQ.out LP.out (i := i) (first := false) (by
                      rw [← HS.out]
                      unfold roundF hearB
                      simp only [HB1.out, HA1.out]
                      simp only [hi0n, Bool.false_and, Bool.false_eq_true, if_false]
                      rw [if_neg (by simpa using hz)]))
                    clear D LP LQ
                    go_wp2
                    exact ⟨⟨i + 1, hlt, by go_num, R.out⟩, by first | (simp [intOf]; done) | (simp [intOf]; omega)⟩
      · obtain rfl : i = 12 := by omega
        have hltz : ¬ ((12 : Nat) : Int) < 12 := by omega
        obtain ⟨e1, e2⟩ := run_end false
        have hD := HI.out.duo
        go_wp2_with fail
        refine (alive_any _).mono ?_
        rintro e w8 ⟨rfl, hk8⟩
        have D8 := hid (hD.still hk8)
        have HS1 := hid (state_any ba _ D8.out.ga _ D8.out.a)
        have HS2 := hid (state_any bb _ D8.out.gb _ D8.out.b)
        rw [e1] at HS1
        rw [e2] at HS2
        have HK := hid D8.out.kept
        clear hD hk8 D8 e1 e2 HI
        go_wp2_with fail
        refine HS1.out.mono ?_
        rintro e w9 ⟨rfl, hw9⟩
        rw [hw9]
        clear hw9 w9
        go_wp2_with fail
        refine HS2.out.mono ?_
        rintro e w9 ⟨rfl, hw9⟩
        rw [hw9]
        clear hw9 w9
        go_wp2
        go_ret
        exact ⟨rfl, below_of HK.out⟩
end Go.Proofs.Ytfilfagnljpgcaa
