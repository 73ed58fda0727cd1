/- CtlGives, walked: without an answer it says the first message retry times more, with longer and longer waits, and is dead then. -/
import Derived.Test.YtoflohomnoppnaaCnAlive
import Derived.Deep.CutBlock
import Derived.Deep.CutRange
import Derived.Deep.DeepCutAuto
import Derived.LoopTactic
namespace Go.Proofs.Ytoflohomnoppnaa
open Go.RowKit

/-- An end that says its one message again: t times in vain, k ticks since. -/
def gvN (retry wait : Int) (t k : Nat) : Cn := ⟨10, retry, wait, 4, 1, if t = 0 then 4 else 1, 0, 1, 0, [], [bX], false, false, (k : Int), (t : Int), false⟩
def wtN (wait : Int) (t : Nat) : Int := if t = 0 then wait else if t = 1 then wait * 2 else if t = 2 then wait * 4 else wait * 8
def totN (wait : Int) : Nat → Int
  | 0 => 0
  | t + 1 => totN wait t + wtN wait t
theorem waitN_gv (retry wait : Int) (t k : Nat) : waitN (gvN retry wait t k) = wtN wait t := by
  unfold waitN wtN gvN
  dsimp only
  split
  · rw [if_pos (by omega)]
  · split
    · rw [if_neg (by omega), if_pos (by omega)]
    · split
      · rw [if_neg (by omega), if_neg (by omega), if_pos (by omega)]
      · rw [if_neg (by omega), if_neg (by omega), if_neg (by omega)]
theorem out_gv (retry wait : Int) (t k : Nat) : outN (gvN retry wait t k) = (gvN retry wait t k, []) := rfl
theorem tick_gv {retry wait : Int} {t k : Nat} (h : (k : Int) + 1 < wtN wait t) : tickN (gvN retry wait t k) = gvN retry wait t (k + 1) := by
  unfold tickN
  rw [if_neg (by simp [gvN]), waitN_gv, if_pos (by simpa [gvN] using h)]
  simp [gvN]
theorem again_gv {retry wait : Int} {t k : Nat} (h : ¬ (k : Int) + 1 < wtN wait t) (hr : ¬ (t : Int) = retry) : outN (tickN (gvN retry wait t k)) = (gvN retry wait (t + 1) 0, [⟨0, 0, bX⟩]) := by
  have e : tickN (gvN retry wait t k) = ⟨10, retry, wait, 4, 1, 1, 0, 1, 0, [], [bX], false, true, 0, (t : Int) + 1, false⟩ := by
    unfold tickN
    rw [if_neg (by simp [gvN]), waitN_gv, if_neg (by simpa [gvN] using h), if_neg (by simpa [gvN] using hr)]
    rfl
  rw [e]
  unfold gvN
  rw [if_neg (by omega)]
  push_cast
  rfl
def deadN (retry wait : Int) (t k : Nat) : Cn := ⟨10, retry, wait, 4, 1, if t = 0 then 4 else 1, 0, 1, 0, [], [bX], false, false, (k : Int) + 1, (t : Int), true⟩
theorem dead_gv {retry wait : Int} {t k : Nat} (h : ¬ (k : Int) + 1 < wtN wait t) (hr : (t : Int) = retry) : tickN (gvN retry wait t k) = deadN retry wait t k := by
  unfold tickN
  rw [if_neg (by simp [gvN]), waitN_gv, if_neg (by simpa [gvN] using h), if_pos (by simpa [gvN] using hr)]
  rfl
theorem out_dead (retry wait : Int) (t k : Nat) : outN (deadN retry wait t k) = (deadN retry wait t k, []) := rfl
theorem good_gv {retry wait : Int} (hr : 0 ≤ retry ∧ retry ≤ 6) (hw : 1 ≤ wait ∧ wait ≤ 10) {t k : Nat} (ht : (t : Int) ≤ retry) (hk : k ≤ 90) : GoodN (gvN retry wait t k) := by
  refine ⟨⟨by simp [gvN], by simp [gvN]⟩, ⟨hr.1, by simp only [gvN]; omega⟩, ⟨hw.1, by simp only [gvN]; omega⟩, ⟨by simp [gvN], by simp [gvN]⟩, ⟨by simp [gvN], by simp [gvN]⟩, by simp only [gvN]; split <;> omega, ⟨by simp [gvN], by simp [gvN]⟩, ⟨by simp [gvN], by simp [gvN]⟩, ⟨by simp [gvN], by simp [gvN]⟩, ⟨by simp [gvN], fun x hx => by simp [gvN] at hx⟩, ⟨by simp [gvN], fun x hx => by simp [gvN] at hx; subst hx; decide⟩, ⟨by simp [gvN], by simp only [gvN]; omega⟩, ⟨by simp [gvN], ht⟩, fun h => by simp [gvN] at h, fun _ => by simp only [gvN]; omega⟩
theorem wtN_in {wait : Int} (hw : 1 ≤ wait ∧ wait ≤ 10) (t : Nat) : 1 ≤ wtN wait t ∧ wtN wait t ≤ 80 := by
  unfold wtN
  split
  · omega
  · split
    · omega
    · split <;> omega
theorem totN_in {wait : Int} (hw : 1 ≤ wait ∧ wait ≤ 10) : ∀ t : Nat, 0 ≤ totN wait t ∧ totN wait t ≤ 80 * (t : Int)
  | 0 => ⟨Int.le_refl _, by simp [totN]⟩
  | t + 1 => by
    have h1 := totN_in hw t
    have h2 := wtN_in hw t
    simp only [totN]
    push_cast
    omega

theorem gv_start (retry wait : Int) : (outN (giveN (newN 4 10 retry wait 0) bX).1) = (gvN retry wait 0 0, [⟨0, 0, bX⟩]) := rfl
/-- How far the loop has come: c is the end, n the messages, m the ticks. -/
def GvAt (retry wait n m : Int) (c : Cn) : Prop := ∃ t k : Nat, (t : Int) ≤ retry ∧ n = (t : Int) + 1 ∧ ((c = gvN retry wait t k ∧ m = totN wait t + (k : Int) ∧ (k : Int) < wtN wait t) ∨ (c = deadN retry wait t k ∧ m = totN wait (t + 1) ∧ (t : Int) = retry ∧ (k : Int) + 1 = wtN wait t))
theorem GvAt.le {retry wait n m : Int} {c : Cn} (h : GvAt retry wait n m c) (hr : 0 ≤ retry ∧ retry ≤ 6) (hw : 1 ≤ wait ∧ wait ≤ 10) : 0 ≤ n ∧ n ≤ 7 ∧ 0 ≤ m ∧ m ≤ 700 := by
  obtain ⟨t, k, ht, hn, ⟨_, hm, hk⟩ | ⟨_, hm, hk⟩⟩ := h
  · have h1 := totN_in hw t
    have h2 := wtN_in hw t
    omega
  · have h1 := totN_in hw (t + 1)
    omega
theorem GvAt.good {retry wait n m : Int} {c : Cn} (h : GvAt retry wait n m c) (hr : 0 ≤ retry ∧ retry ≤ 6) (hw : 1 ≤ wait ∧ wait ≤ 10) : GoodN c := by
  obtain ⟨t, k, ht, hn, ⟨rfl, hm, hk⟩ | ⟨rfl, hm, he, hk⟩⟩ := h
  · have h2 := wtN_in hw t
    exact good_gv hr hw ht (by omega)
  · have h2 := wtN_in hw t
    have := good_tickN (good_gv hr hw ht (show k ≤ 90 by omega))
    rw [dead_gv (by omega) he] at this
    exact this
/-- One round: a tick, and what is said. -/
theorem GvAt.step {retry wait n m : Int} {c : Cn} (h : GvAt retry wait n m c) (hd : c.dead = false) : GvAt retry wait (n + ((outN (tickN c)).2.length : Int)) (m + 1) (outN (tickN c)).1 := by
  obtain ⟨t, k, ht, hn, ⟨rfl, hm, hk⟩ | ⟨rfl, _⟩⟩ := h
  · by_cases h1 : (k : Int) + 1 < wtN wait t
    · rw [tick_gv h1, out_gv]
      exact ⟨t, k + 1, ht, by simpa using hn, Or.inl ⟨rfl, by push_cast; omega, by push_cast; exact h1⟩⟩
    · by_cases hr : (t : Int) = retry
      · rw [dead_gv h1 hr, out_dead]
        refine ⟨t, k, ht, by simpa using hn, Or.inr ⟨rfl, ?_, hr, by omega⟩⟩
        simp only [totN]
        omega
      · rw [again_gv h1 hr]
        refine ⟨t + 1, 0, by push_cast; omega, by simp; omega, Or.inl ⟨rfl, ?_, ?_⟩⟩
        · simp only [totN]
          push_cast
          omega
        · show (0 : Int) < wtN wait (t + 1)
          unfold wtN at *
          split at h1 <;> split <;> (try split) <;> (try split) <;> omega
  · cases hd
theorem GvAt.done {retry wait n m : Int} {c : Cn} (h : GvAt retry wait n m c) (hd : c.dead = true) : n = retry + 1 ∧ m = totN wait (retry + 1).toNat := by
  obtain ⟨t, k, ht, hn, ⟨rfl, _⟩ | ⟨rfl, hm, he, _⟩⟩ := h
  · cases hd
  · have : (retry + 1).toNat = t + 1 := by omega
    rw [this]
    exact ⟨by omega, hm⟩

set_option maxHeartbeats 8000000 in
set_option maxRecDepth 100000 in
theorem ctlGives_walk (retry wait : Int) (w : World) (_hr : -9223372036854775808 ≤ retry ∧ retry ≤ 9223372036854775807) (_hw : -9223372036854775808 ≤ wait ∧ wait ≤ 9223372036854775807) :
    Calls Try.prog 7 #[.int .i64 retry, .int .i64 wait] w fun e w' => e = .returned (.bool true) ∧ Below w.heap.size w w' := by
  have HA := hid (fun W => aliveN_any W)
  by_cases h1 : retry < 0
  · go_enter Try.func7, Try.ntmps7
    go_wp2_with fail
    refine (HA.out _).mono ?_
    rintro e w1 ⟨rfl, hk⟩
    have HK := hid hk
    clear hk HA
    go_wp2
    go_returns
    exact ⟨rfl, HK.out.below (Nat.le_refl _) (fun _ f => f.elim)⟩
  by_cases h2 : 6 < retry
  · go_enter Try.func7, Try.ntmps7
    go_wp2_with fail
    refine (HA.out _).mono ?_
    rintro e w1 ⟨rfl, hk⟩
    have HK := hid hk
    clear hk HA
    go_wp2
    go_returns
    exact ⟨rfl, HK.out.below (Nat.le_refl _) (fun _ f => f.elim)⟩
  by_cases h3 : wait < 1
  · go_enter Try.func7, Try.ntmps7
    go_wp2_with fail
    refine (HA.out _).mono ?_
    rintro e w1 ⟨rfl, hk⟩
    have HK := hid hk
    clear hk HA
    go_wp2
    go_returns
    exact ⟨rfl, HK.out.below (Nat.le_refl _) (fun _ f => f.elim)⟩
  by_cases h4 : 10 < wait
  · go_enter Try.func7, Try.ntmps7
    go_wp2_with fail
    refine (HA.out _).mono ?_
    rintro e w1 ⟨rfl, hk⟩
    have HK := hid hk
    clear hk HA
    go_wp2
    go_returns
    exact ⟨rfl, HK.out.below (Nat.le_refl _) (fun _ f => f.elim)⟩
  have hr : 0 ≤ retry ∧ retry ≤ 6 := ⟨by omega, by omega⟩
  have hw : 1 ≤ wait ∧ wait ≤ 10 := ⟨by omega, by omega⟩
  have HR := hid hr
  have HW := hid hw
  have hok : newOkN 4 10 retry wait 0 = true := by
    simp only [newOkN, Bool.and_eq_true, decide_eq_true_eq]
    omega
  have g0 := good_newN hok
  have HNew := hid (new_any 4 10 retry wait 0 w)
  have HS1 := hid (fun W b vw vf (h : CnIn W b (newN 4 10 retry wait 0) vw vf) => send_any h g0 bX)
  have HO1 := hid (fun W b vw vf (h : CnIn W b (giveN (newN 4 10 retry wait 0) bX).1 vw vf) => out_any h (good_giveN g0 bX))
  rw [show (giveN (newN 4 10 retry wait 0) bX).2 = 0 from rfl] at HS1
  rw [gv_start] at HO1
  have hstart : GvAt retry wait 1 0 (gvN retry wait 0 0) := ⟨0, 0, hr.1, rfl, Or.inl ⟨rfl, rfl, by simp only [wtN]; simp; omega⟩⟩
  have HSt := hid hstart
  have HOK := hid hok
  unfold bX at HS1
  clear hr hw hok g0 hstart _hr _hw
  go_enter Try.func7, Try.ntmps7
  go_wp2_with fail
  refine (HNew.out).mono ?_
  rintro e w1 (⟨h0, _⟩ | ⟨-, b, rfl, hc0, hb, hk1⟩)
  · exact absurd (h0.symm.trans HOK.out) (by decide)
  clear HNew HOK
  go_wp2_with fail
  refine (HS1.out _ _ _ _ hc0).mono ?_
  rintro e w2 ⟨rfl, vw2, hn2⟩
  clear HS1
  go_wp2_with fail
  refine (HO1.out _ _ _ _ hn2.mem).mono ?_
  rintro e w3 ⟨vo3, vw3, vf3, rfl, hn3, ho3⟩
  clear HO1
  obtain ⟨p3, c3, hv3⟩ := own_slice ho3
  rw [show ([⟨0, 0, bX⟩] : List Ite).length = 1 from rfl] at hv3
  subst hv3
  have hlow : ∀ i, Sn b (.slice none 0 0) (.slice none 0 0) i → w.heap.size ≤ i := by
    rintro i (rfl | g | g)
    · exact hb
    · cases g
    · cases g
  have HKA := hid (hk1.andThen (hn2.trans hn3).kept (fun i hi s => by have := hlow i s; omega))
  have hs1 := hk1.size
  have HL3 : Hid (∀ i, Sn b vw3 vf3 i → w.heap.size ≤ i) := by
    intro i hi
    rcases (hn2.trans hn3).new i hi with g | g
    · exact hlow i g
    · omega
  have HC3 := hid hn3.mem
  clear hlow hn2 hn3 hc0 hk1 hb ho3 hs1
  go_upto_region 7 with fail
  go_loopw [7, 8] (fun vn vm wr => ∃ (n m : Int) (c : Cn) (vw vf : Value), vn = .int .i64 n ∧ vm = .int .i64 m ∧ Hid (GvAt retry wait n m c ∧ CnIn wr b c vw vf ∧ (∀ i, Sn b vw vf i → w.heap.size ≤ i) ∧ Kept (fun _ => False) w wr)) (fun _ vm _ => 2000 - (intOf vm).toNat)
  case atStart => exact ⟨1, 0, _, vw3, vf3, rfl, rfl, HSt.out, HC3.out, HL3.out, HKA.out⟩
  case round =>
    obtain ⟨n, m, c, vw, vf, rfl, rfl, HJ⟩ := hrel
    clear HSt HC3 HL3 HKA
    have hgc := HJ.out.1.good HR.out HW.out
    have HGc := hid hgc
    have HD := hid (dead_any b c vw vf wr HJ.out.2.1.blk hgc.wait.1)
    have hle := HJ.out.1.le HR.out HW.out
    have hm2 : m < 2000 := by omega
    have hm0 : 0 ≤ m := by omega
    have hn1 : 0 ≤ n ∧ n ≤ 7 := by omega
    clear hgc hle
    go_wp2_with fail
    refine (HD.out).mono ?_
    rintro e w4 ⟨rfl, hq⟩
    rw [hq]
    clear hq w4 HD
    cases hd : c.dead with
    | true =>
      have HDone := hid (HJ.out.1.done hd)
      have HDd := hid hd
      clear hd
      go_upto_region 13 with fail
      have HJ2 := hid HJ.out.2
      clear HJ
      go_loopw [9, 10] (fun vt vi wx => ∃ j : Nat, (j : Int) ≤ retry + 1 ∧ vi = .int .i64 (j : Int) ∧ vt = .int .i64 (totN wait j) ∧ Hid (wx = wr)) (fun _ vi _ => 8 - (intOf vi).toNat)
      case atStart => exact ⟨0, by have := HR.out; omega, rfl, rfl, hid rfl⟩
      case round =>
        obtain ⟨j, hj, rfl, rfl, hwx⟩ := hrel
        have htb := totN_in HW.out j
        have hr2 := HR.out
        have hw2 := HW.out
        have hj7 : (j : Int) ≤ 7 := by omega
        by_cases hlt : (j : Int) ≤ retry
        · have hstep : totN wait (j + 1) = totN wait j + wtN wait j := rfl
          have HStep := hid hstep
          have wj : IntKind.i64.wrap ((j : Int) + 1) = (j : Int) + 1 := by rw [IntKind.wrap_i64]; omega
          obtain ⟨J, hJ⟩ : ∃ J : Int, J = (j : Int) := ⟨_, rfl⟩
          have HJn := hid hJ
          obtain ⟨T, hT⟩ : ∃ T : Int, T = totN wait j := ⟨_, rfl⟩
          have HTn := hid hT
          have hTb : 0 ≤ T ∧ T ≤ 560 := by omega
          rw [← hJ] at hlt wj hj7
          rw [← hJ, ← hT]
          have hJ0 : 0 ≤ J := by omega
          have hEq : Hid (wrap64 (T + wrap64 (wait * 2 ^ (min J 3).toNat)) = totN wait (j + 1)) := by
            have hws : ∀ z : Int, 0 ≤ z ∧ z ≤ 1000 → wrap64 z = z := fun z hz => by unfold wrap64; omega
            show _ = _
            rw [hstep, ← hT]
            unfold wtN
            rcases (by omega : J = 0 ∨ J = 1 ∨ J = 2 ∨ 3 ≤ J) with g | g | g | g
            · rw [if_pos (by omega), g, show wait * 2 ^ (min (0 : Int) 3).toNat = wait from by rw [show (min (0 : Int) 3).toNat = 0 from rfl]; omega, hws wait (by omega), hws _ (by omega)]
            · rw [if_neg (by omega), if_pos (by omega), g, show wait * 2 ^ (min (1 : Int) 3).toNat = wait * 2 from by rw [show (min (1 : Int) 3).toNat = 1 from rfl]; omega, hws (wait * 2) (by omega), hws _ (by omega)]
            · rw [if_neg (by omega), if_neg (by omega), if_pos (by omega), g, show wait * 2 ^ (min (2 : Int) 3).toNat = wait * 4 from by rw [show (min (2 : Int) 3).toNat = 2 from rfl]; omega, hws (wait * 4) (by omega), hws _ (by omega)]
            · rw [if_neg (by omega), if_neg (by omega), if_neg (by omega), show (min J 3).toNat = 3 from by omega, hws (wait * 2 ^ 3) (by omega), hws _ (by omega)]
              omega
          clear hstep hJ hT htb
          go_wp2
          exact ⟨⟨j + 1, by push_cast; rw [← HJn.out]; omega, by rw [HJn.out]; push_cast; rfl, by rw [hEq.out], hwx⟩, by simp [intOf]; omega⟩
        · obtain ⟨hn, hm⟩ := HDone.out
          have hjr : j = (retry + 1).toNat := by omega
          have hmT : m = totN wait j := by rw [hjr]; exact hm
          have hw0 := hwx.out
          clear hwx
          subst hw0
          have HS := hid (fun W (hk : Kept (fun _ => False) wr W) => send_any (HJ2.out.1.kept0 hk) HGc.out bY)
          rw [show (giveN c bY).2 = 20 by unfold giveN; rw [if_pos HDd.out]] at HS
          have HDx := hid (fun W (hk : Kept (fun _ => False) wr W) => dead_any b c vw vf W (HJ2.out.1.kept0 hk).blk HGc.out.wait.1)
          rw [HDd.out] at HDx
          unfold bY at HS
          have wj : IntKind.i64.wrap (retry + 1) = retry + 1 := by rw [IntKind.wrap_i64]; omega
          have e1 : (n == retry + 1) = true := beq_iff_eq.2 hn
          have e2 : (m == totN wait j) = true := beq_iff_eq.2 hmT
          generalize totN wait j = T at *
          clear hn hm hjr hmT htb HDone
          go_wp2_with fail
          refine (HA.out _).mono ?_
          rintro e w7 ⟨rfl, hk7⟩
          have HK7 := hid hk7
          clear hk7 HA
          go_wp2_with fail
          refine (HDx.out _ HK7.out).mono ?_
          rintro e w8 ⟨rfl, hq⟩
          rw [hq]
          clear hq w8 HDx
          go_wp2_with fail
          refine (HS.out _ HK7.out).mono ?_
          rintro e w9 ⟨rfl, vw9, hn9⟩
          have HKE : Hid (Kept (fun _ => False) w w9) := (HJ2.out.2.2.trans HK7.out).andThen hn9.kept (fun i hi s => by have := HJ2.out.2.1 i s; omega)
          clear hn9 HS
          go_wp2
          go_returns
          exact ⟨rfl, HKE.out.below (Nat.le_refl _) (fun _ f => f.elim)⟩
    | false =>
      have HDd := hid hd
      have hst := HJ.out.1.step hd
      have HSp := hid hst
      clear hd hst
      have HT := hid (tick_any HJ.out.2.1 HGc.out)
      have HO := hid (fun W vw' vf' (h : CnIn W b (tickN c) vw' vf') => out_any h (good_tickN HGc.out))
      go_wp2_with fail
      refine (HT.out).mono ?_
      rintro e w5 ⟨rfl, hn5⟩
      have w1 : IntKind.i64.wrap (m + 1) = m + 1 := by rw [IntKind.wrap_i64]; omega
      go_wp2_with fail
      refine (HO.out _ _ _ hn5.mem).mono ?_
      rintro e w6 ⟨vo6, vw6, vf6, rfl, hn6, ho6⟩
      obtain ⟨p6, c6, hv6⟩ := own_slice ho6
      subst hv6
      have hle2 := HSp.out.le HR.out HW.out
      generalize ((outN (tickN c)).2.length : Nat) = q at *
      have w2 : IntKind.i64.wrap (n + (q : Int)) = n + (q : Int) := by rw [IntKind.wrap_i64]; omega
      have hkk := (hn5.trans hn6).kept
      have HF : Hid (GvAt retry wait (n + (q : Int)) (m + 1) (outN (tickN c)).1 ∧ CnIn w6 b (outN (tickN c)).1 vw6 vf6 ∧ (∀ i, Sn b vw6 vf6 i → w.heap.size ≤ i) ∧ Kept (fun _ => False) w w6) := ⟨HSp.out, hn6.mem, fun i hi => by
        rcases (hn5.trans hn6).new i hi with g | g
        · exact HJ.out.2.2.1 i g
        · have := HJ.out.2.2.2.size
          omega, HJ.out.2.2.2.andThen hkk (fun i hi s => by have := HJ.out.2.2.1 i s; omega)⟩
      clear hn5 hn6 ho6 hkk hle2 HSp HT HO HJ HGc
      go_wp2
      exact ⟨⟨_, _, _, vw6, vf6, rfl, rfl, HF⟩, by simp only [intOf]; omega⟩
end Go.Proofs.Ytoflohomnoppnaa
