/- The law NegQuiet: it returns true for every configure and wait, and leaves what was there. -/
import Derived.Test.YtodgkmjiiijfpabNgAlive
import Derived.Test.YtodgkmjiiijfpabNgSetup
namespace Go.Proofs.Ytodgkmjiiijfpab
open Go.RowKit

/-- A negotiation that nobody answers, behind i ticks (c: how often it may ask, t: how long it waits). -/
def nQ (c t : Nat) : Ng := newN [optA] [rule1] [rule1] c 2 3 t
def quietN (c t i : Nat) : Ng :=
  if i < c * t then { nQ c t with au := ⟨c, 2, 6, ((c - 1 - i / t : Nat) : Int)⟩, ticks := ((i % t : Nat) : Int), id := ((1 + i / t : Nat) : Int), last := ((1 + i / t : Nat) : Int), begun := true }
  else { nQ c t with au := ⟨c, 2, 3, 0⟩, id := (c : Int), last := (c : Int), begun := true }
def askedN (c t i : Nat) : Nat := if i < c * t then 1 + i / t else c

theorem stepQ1 (c t : Nat) : doN (nQ c t) 2 = ({ nQ c t with au := ⟨c, 2, 1, 0⟩ }, []) := by kernel_rfl
theorem stepQ2 (c t : Nat) (hc : 1 ≤ c) (ht : 1 ≤ t) : doN { nQ c t with au := ⟨c, 2, 1, 0⟩ } 0 = (quietN c t 0, [⟨1, 1, [optA], ⟨#[]⟩⟩]) := by
  have h0 : 0 < c * t := Nat.mul_pos hc ht
  have e : doN { nQ c t with au := ⟨c, 2, 1, 0⟩ } 0 = ({ nQ c t with au := ⟨c, 2, 6, max ((c : Int) - 1) 0⟩, ticks := 0, id := 1, last := 1, begun := true }, [⟨1, 1, [optA], ⟨#[]⟩⟩]) := by kernel_rfl
  rw [e]
  unfold quietN
  rw [if_pos h0, Int.max_eq_left (by omega), Nat.zero_div, Nat.zero_mod, show ((c - 1 - 0 : Nat) : Int) = (c : Int) - 1 by omega]
  rfl

theorem quiet_time (c t i : Nat) (hc : 1 ≤ c) (hc2 : c ≤ 20) (ht : 1 ≤ t) (hi : i < c * t) : (tickN (quietN c t i)).1 = quietN c t (i + 1) ∧ (tickN (quietN c t i)).2.length + askedN c t i = askedN c t (i + 1) := by
  have hq : i / t < c := Nat.div_lt_of_lt_mul (by rw [Nat.mul_comm]; exact hi)
  have hr : i % t < t := Nat.mod_lt _ ht
  have hd := Nat.div_add_mod i t
  by_cases hlt : i % t + 1 < t
  · have h1 : (i + 1) / t = i / t := by
      rw [Nat.div_eq_of_lt_le (k := i / t)]
      · have := Nat.mul_comm (i / t) t; omega
      · have : (i / t + 1) * t = t * (i / t) + t := by rw [Nat.add_mul, Nat.one_mul, Nat.mul_comm]
        omega
    have h2 : (i + 1) % t = i % t + 1 := by
      have h3 := Nat.div_add_mod (i + 1) t
      rw [h1] at h3
      omega
    have h3 : i + 1 < c * t := by
      have h4 : (i / t + 1) * t ≤ c * t := Nat.mul_le_mul_right t hq
      have : (i / t + 1) * t = t * (i / t) + t := by rw [Nat.add_mul, Nat.one_mul, Nat.mul_comm]
      omega
    unfold quietN askedN
    rw [if_pos hi, if_pos h3, if_pos hi, if_pos h3, h1, h2]
    unfold tickN
    rw [if_neg (by simp [waitsF]), if_pos (by simp only [nQ, newN]; omega)]
    exact ⟨by simp, by simp⟩
  · have h0 : i % t + 1 = t := by omega
    have h1 : (i + 1) / t = i / t + 1 := by
      have e : i + 1 = (i / t + 1) * t := by
        have : (i / t + 1) * t = t * (i / t) + t := by rw [Nat.add_mul, Nat.one_mul, Nat.mul_comm]
        omega
      rw [e, Nat.mul_div_cancel _ (by omega)]
    have h2 : (i + 1) % t = 0 := by
      have h3 := Nat.div_add_mod (i + 1) t
      rw [h1] at h3
      have : t * (i / t + 1) = t * (i / t) + t := by rw [Nat.mul_add, Nat.mul_one]
      omega
    have hT : tickN (quietN c t i) = actsF (un (quietN c t i)) { quietN c t i with ticks := 0, au := (timeF (quietN c t i).au).2 } (timeF (quietN c t i).au).1 := by
      unfold tickN
      have hw : waitsF (quietN c t i).au = true := by unfold quietN; rw [if_pos hi]; rfl
      rw [hw, if_neg (by simp), if_neg]
      unfold quietN
      rw [if_pos hi]
      simp only [nQ, newN]
      omega
    rw [hT]
    by_cases hz : i / t + 1 < c
    · have h3 : i + 1 < c * t := by
        have h4 : (i / t + 1 + 1) * t ≤ c * t := Nat.mul_le_mul_right t hz
        have h5 : (i / t + 1 + 1) * t = t * (i / t) + t + t := by rw [Nat.add_mul, Nat.add_mul, Nat.one_mul, Nat.mul_comm]
        omega
      unfold quietN askedN
      rw [if_pos hi, if_pos h3, if_pos hi, if_pos h3, h1, h2]
      have hct : ((c - 1 - i / t : Nat) : Int) = ((c - 1 - (i / t + 1) : Nat) : Int) + 1 := by omega
      rw [hct]
      generalize hk : ((c - 1 - (i / t + 1) : Nat) : Int) = k
      have hk0 : 0 ≤ k := by omega
      have hF : timeF ⟨(c : Int), 2, 6, k + 1⟩ = ([6], ⟨c, 2, 6, k⟩) := by
        unfold timeF
        rw [show waitsF ⟨(c : Int), 2, 6, k + 1⟩ = true from rfl, if_pos rfl, if_pos (by simp only; omega)]
        have e : doF ⟨(c : Int), 2, 6, k + 1⟩ 4 = ([6], ⟨c, 2, 6, max (k + 1 - 1) 0⟩) := by kernel_rfl
        rw [e, Int.add_sub_cancel, Int.max_eq_left hk0]
      simp only
      rw [hF]
      have hnx : nextId ((1 + i / t : Nat) : Int) = ((1 + (i / t + 1) : Nat) : Int) := by
        have hb : i / t < 20 := by omega
        generalize i / t = q at *
        unfold nextId
        omega
      generalize hq1 : ((1 + i / t : Nat) : Int) = q1 at *
      generalize hq2 : ((1 + (i / t + 1) : Nat) : Int) = q2 at *
      simp [actsF, actF, sendF, tallyF, askN, un, hnx]
      omega
    · have hz' : i / t + 1 = c := by omega
      have h3 : ¬ i + 1 < c * t := by
        have : c * t = t * (i / t) + t := by rw [← hz', Nat.add_mul, Nat.one_mul, Nat.mul_comm]
        omega
      unfold quietN askedN
      rw [if_pos hi, if_neg h3, if_pos hi, if_neg h3]
      have hct : ((c - 1 - i / t : Nat) : Int) = 0 := by omega
      rw [hct]
      have hF : timeF ⟨(c : Int), 2, 6, 0⟩ = ([3], ⟨c, 2, 3, 0⟩) := by kernel_rfl
      simp only
      rw [hF, show ((1 + i / t : Nat) : Int) = (c : Int) by omega]
      simp only [actsF, List.foldl, actF, sendF, tallyF, un]
      constructor
      · simp [nQ, newN]
      · simp
        omega
theorem quiet_state (c t i : Nat) (hi : i < c * t) : (quietN c t i).au.st = 6 := by unfold quietN; rw [if_pos hi]
theorem quiet_end (c t : Nat) : quietN c t (c * t) = { nQ c t with au := ⟨c, 2, 3, 0⟩, id := (c : Int), last := (c : Int), begun := true } ∧ askedN c t (c * t) = c := by
  unfold quietN askedN
  rw [if_neg (by omega), if_neg (by omega)]
  exact ⟨rfl, rfl⟩
theorem quiet_ticks (c t i : Nat) (ht : 1 ≤ t) (hi : i < c * t) : (quietN c t i).ticks < (quietN c t i).wait := by
  have hr : i % t < t := Nat.mod_lt _ ht
  unfold quietN
  rw [if_pos hi]
  simp only [nQ, newN]
  omega

theorem rules_lt {W : World} {v : Value} {r : Rl} (h : RulesAt W v [r]) {i : Nat} (hi : v.ownBlock = some i) : i < W.heap.size := by
  obtain ⟨p, cap, rfl⟩ := h.slice
  obtain ⟨g, o, rfl, _, c0, _⟩ := h.at (j := 0) rfl
  have : g = i := by simpa [Value.ownBlock] using hi
  subst this
  exact lt_of_cell c0
/-- A law's own negotiation in whatever way it is laid. -/
def Mine1 (w W : World) (b : Nat) (n : Ng) : Prop := ∃ a, NMine w W b a n

set_option maxHeartbeats 8000000 in
set_option maxRecDepth 100000 in
theorem negQuiet_walk (cf wt : Int) (w : World) (_h1 : In64 cf) (_h2 : In64 wt) :
    Calls Try.prog 3 #[.int .i64 cf, .int .i64 wt] w fun e w' => e = .returned (.bool true) ∧ Below w.heap.size w w' := by
  have Ha := hid lawAlive_any
  by_cases hok : 1 ≤ cf ∧ cf ≤ 20 ∧ 1 ≤ wt ∧ wt ≤ 20
  · obtain ⟨c, rfl⟩ : ∃ c : Nat, cf = (c : Int) := ⟨cf.toNat, by omega⟩
    obtain ⟨t, rfl⟩ : ∃ t : Nat, wt = (t : Int) := ⟨wt.toNat, by omega⟩
    have hc1 : 1 ≤ c := by omega
    have hc2 : c ≤ 20 := by omega
    have ht1 : 1 ≤ t := by omega
    have ht2 : t ≤ 20 := by omega
    have z1 : ¬ (c : Int) < 1 := by omega
    have z2 : ¬ 20 < (c : Int) := by omega
    have z3 : ¬ (t : Int) < 1 := by omega
    have z4 : ¬ 20 < (t : Int) := by omega
    have hmul : c * t ≤ 400 := Nat.le_trans (Nat.mul_le_mul hc2 ht2) (by decide)
    have hwm : IntKind.i64.wrap ((c : Int) * (t : Int)) = ((c * t : Nat) : Int) := by
      rw [show ((c : Int) * (t : Int)) = ((c * t : Nat) : Int) by simp, IntKind.wrap_i64]
      omega
    have HSu := hid (lawSetup_any ⟨#[5, 0]⟩ 3 w)
    unfold setupV at HSu
    clear hok
    go_enter Try.func3, Try.ntmps3
    go_wp2_with fail
    refine HSu.out.mono ?_
    rintro e w1 ⟨va, vo, vp, rfl, hoa, hra, hrp, hk1⟩
    obtain ⟨pa, ca, rfl⟩ := hoa.1.slice
    obtain ⟨po, co, rfl⟩ := hra.slice
    obtain ⟨pp, cp, rfl⟩ := hrp.slice
    have ka := (Kept.refl (fun _ => False) w1).alloc (.cells #[.slice pa 1 ca, .slice po 1 co, .slice pp 1 cp, .slice none 0 0, .int .i64 5, .int .i64 2, .int .i64 3, .int .i64 2] 27)
    have LA := hid (fun i (hi : (Value.slice pa 1 ca).ownBlock = some i) => optsAt_lt hoa (by simp) hi)
    have LO := hid (fun i (hi : (Value.slice po 1 co).ownBlock = some i) => rules_lt hra hi)
    have LP := hid (fun i (hi : (Value.slice pp 1 cp).ownBlock = some i) => rules_lt hrp hi)
    have HA1 := hid (hoa.kept0 ka)
    have HR1 := hid (hra.kept0 ka)
    have HP1 := hid (hrp.kept0 ka)
    have HK1 := hid hk1
    have HKa := hid (hk1.trans ka)
    have HB : Hid ((w1.alloc (.cells #[.slice pa 1 ca, .slice po 1 co, .slice pp 1 cp, .slice none 0 0, .int .i64 5, .int .i64 2, .int .i64 3, .int .i64 2] 27)).heap[w1.heap.size]? = some (.cells #[.slice pa 1 ca, .slice po 1 co, .slice pp 1 cp, .slice none 0 0, .int .i64 5, .int .i64 2, .int .i64 3, .int .i64 2] 27 (0, 0))) := heap_alloc_new w1 _
    clear hoa hra hrp hk1 HSu ka
    generalize hAe : w1.alloc (.cells #[.slice pa 1 ca, .slice po 1 co, .slice pp 1 cp, .slice none 0 0, .int .i64 5, .int .i64 2, .int .i64 3, .int .i64 2] 27) = A at *
    have HAe := hid hAe
    clear hAe
    go_upto_region 4 with fail
    rw [HAe.out]
    clear HAe
    have c4 : A.cell? ⟨w1.heap.size, 4, none⟩ = some (.int .i64 5) := by simp [World.cell?, show A.heap[w1.heap.size]? = _ from HB.out]
    have c7 : A.cell? ⟨w1.heap.size, 7, none⟩ = some (.int .i64 2) := by simp [World.cell?, show A.heap[w1.heap.size]? = _ from HB.out]
    have f4 : ∀ j, A.frozen? ⟨w1.heap.size, j, none⟩ = false := fun j => frozen_of_row _ w1.heap.size j _ _ HB.out
    have B2 : Hid (((A.setCell ⟨w1.heap.size, 4, none⟩ (.int .i64 (c : Int))).setCell ⟨w1.heap.size, 7, none⟩ (.int .i64 (t : Int))).heap[w1.heap.size]? = some (.cells #[.slice pa 1 ca, .slice po 1 co, .slice pp 1 cp, .slice none 0 0, .int .i64 (c : Int), .int .i64 2, .int .i64 3, .int .i64 (t : Int)] 27 (0, 0))) := Joins.block_setCell (i := 7) (Joins.block_setCell (i := 4) HB.out (.int .i64 (c : Int))) (.int .i64 (t : Int))
    have K2 := hid ((kept_cell A w1.heap.size 4 (.int .i64 (c : Int))).trans (kept_cell _ w1.heap.size 7 (.int .i64 (t : Int))))
    clear HB
    go_upto_region 5 with fail
    generalize (A.setCell ⟨w1.heap.size, 4, none⟩ (.int .i64 (c : Int))).setCell ⟨w1.heap.size, 7, none⟩ (.int .i64 (t : Int)) = w2 at *
    clear c4 c7 f4
    have hC : ∀ j u, [Value.slice pa 1 ca, .slice po 1 co, .slice pp 1 cp, .slice none 0 0, .int .i64 (c : Int), .int .i64 2, .int .i64 3, .int .i64 (t : Int)][j]? = some u → w2.cell? ⟨w1.heap.size, j, none⟩ = some u := fun j u hj => by
      simp only [World.cell?, show w2.heap[w1.heap.size]? = _ from B2.out, Option.isSome_none, Bool.false_eq_true, if_false]
      simpa using hj
    have s0 := hC 0 _ rfl
    have s1 := hC 1 _ rfl
    have s2 := hC 2 _ rfl
    have s3 := hC 3 _ rfl
    have s4 := hC 4 _ rfl
    have s5 := hC 5 _ rfl
    have s6 := hC 6 _ rfl
    have s7 := hC 7 _ rfl
    have hne : ∀ (v : Value), (∀ i, v.ownBlock = some i → i < w1.heap.size) → ∀ i, i < A.heap.size → i = w1.heap.size → v.ownBlock ≠ some i := fun v h i _ e hi => by have := h i hi; omega
    have HNew := hid (ngNew_any (.slice pa 1 ca) (.slice po 1 co) (.slice pp 1 cp) [optA] [rule1] [rule1] c 2 3 t w2 (HA1.out.kept K2.out (hne _ LA.out)) (HR1.out.kept K2.out (hne _ LO.out)) (HP1.out.kept K2.out (hne _ LP.out)) ⟨by omega, by omega⟩ (by decide) (by decide) ⟨by omega, by omega⟩ (fine1 ⟨by decide, by decide⟩ (by decide)) (by kernel_rfl) (alone1 _) good1 good1)
    unfold setupV at HNew
    have KW2 : Hid (Kept (fun _ => False) w w2) := HKa.out.andThen K2.out (fun i hi e => by have := HK1.out.size; omega)
    clear hC hne HA1 HR1 HP1 K2 B2 LA LO LP HKa HK1
    go_wp2_with fail
    refine HNew.out.mono ?_
    rintro e w3 ⟨b, rfl, a, hn, hk3⟩
    have M3 : Hid (NMine w w3 b a (nQ c t)) := ⟨hn.lower KW2.out.size, KW2.out.trans hk3⟩
    have hE := eqNegSome ⟨b, 0, none⟩
    clear hn hk3 KW2 HNew s0 s1 s2 s3 s4 s5 s6 s7
    have HD := hid (ngDo_any 2 w3 M3.out.neg)
    rw [stepQ1] at HD
    go_wp2_with fail
    refine HD.out.mono ?_
    rintro e w4 ⟨vo, rfl, S4⟩
    obtain ⟨a4, p4, c4, rfl, N4⟩ := sent_zero S4
    have M4 := hid (M3.out.next N4)
    clear S4 N4 HD M3
    have HD := hid (ngDo_any 0 w4 M4.out.neg)
    rw [stepQ2 c t hc1 ht1] at HD
    go_wp2_with fail
    refine HD.out.mono ?_
    rintro e w5 ⟨vo, rfl, S5⟩
    obtain ⟨a5, g5, c5, u5, rfl, hc5, N5, _, _, _, _⟩ := sent_one S5
    have M5 : Hid (Mine1 w w5 b (quietN c t 0)) := ⟨a5, M4.out.next N5⟩
    have hA0 : askedN c t 0 = 1 := by unfold askedN; rw [if_pos (Nat.mul_pos hc1 ht1), Nat.zero_div]
    clear S5 N5 HD M4
    go_wp2
    go_loopw [8, 9] (fun v8 vi wr => ∃ j : Nat, j ≤ c * t ∧ vi = .int .i64 (j : Int) ∧ v8 = .int .i64 ((askedN c t j : Nat) : Int) ∧ Hid (Mine1 w wr b (quietN c t j))) (fun _ vi _ => c * t - (intOf vi).toNat)
    case atStart => exact ⟨0, Nat.zero_le _, rfl, by rw [hA0]; rfl, M5.out⟩
    case round =>
      obtain ⟨j, hj, rfl, rfl, HI⟩ := hrel
      clear M5
      by_cases hlt : j < c * t
      · have hltz : (j : Int) < ((c * t : Nat) : Int) := by omega
        obtain ⟨a6, M6⟩ := HI.out
        have HSt := hid (ngState_any wr M6.neg)
        rw [quiet_state c t j hlt] at HSt
        have HTi := hid (ngTick_any wr M6.neg (quiet_ticks c t j ht1 hlt))
        obtain ⟨e1, e2⟩ := quiet_time c t j hc1 hc2 ht1 hlt
        have hA20 : askedN c t (j + 1) ≤ 21 := by
          unfold askedN
          split
          · rename_i h
            have : (j + 1) / t < c := Nat.div_lt_of_lt_mul (by rw [Nat.mul_comm]; exact h)
            omega
          · omega
        have hwr : IntKind.i64.wrap (((askedN c t j : Nat) : Int) + (((tickN (quietN c t j)).2.length : Nat) : Int)) = ((askedN c t (j + 1) : Nat) : Int) := by
          rw [IntKind.wrap_i64]
          omega
        have HM := hid M6
        have E1 := hid e1
        generalize askedN c t j = x at *
        generalize hy : askedN c t (j + 1) = y at *
        have HY := hid hy
        clear hy e1 e2 M6 HI
        go_wp2_with (first | (go_at_call 9; refine HSt.out.mono ?_; rintro e w' ⟨rfl, hw⟩; rw [hw]; clear hw w'))
        refine HTi.out.mono ?_
        rintro e w7 ⟨vo, rfl, S7⟩
        obtain ⟨p7, c7, rfl⟩ := S7.slice
        obtain ⟨a7, l7, hs7, _⟩ := S7
        have R : Hid (Mine1 w w7 b (quietN c t (j + 1))) := ⟨a7, by rw [← E1.out]; exact HM.out.next hs7.nx⟩
        clear hs7 HTi HSt HM E1
        generalize (tickN (quietN c t j)).2.length = z at *
        go_wp2
        exact ⟨⟨j + 1, hlt, by go_num, by rw [HY.out], R.out⟩, by simp [intOf]; omega⟩
      · obtain rfl : j = c * t := by omega
        have hltz : ¬ ((c * t : Nat) : Int) < ((c * t : Nat) : Int) := by omega
        obtain ⟨a6, M6⟩ := HI.out
        obtain ⟨q1, q2⟩ := quiet_end c t
        rw [q1] at M6
        rw [q2]
        have HM := hid M6
        clear M6 HI q1 q2 hlt
        go_wp2_with fail
        refine (Ha.out _).mono ?_
        rintro e w8 ⟨rfl, hk8⟩
        have M8 := hid (HM.out.still hk8)
        have HSt := hid (ngState_any w8 M8.out.neg)
        have HTi := hid (ngTick_any w8 M8.out.neg (by simp only [nQ, newN]; omega))
        rw [show tickN { nQ c t with au := ⟨c, 2, 3, 0⟩, id := (c : Int), last := (c : Int), begun := true } = ({ nQ c t with au := ⟨c, 2, 3, 0⟩, id := (c : Int), last := (c : Int), begun := true }, []) from by unfold tickN; exact if_pos rfl] at HTi
        simp only at HSt
        clear hk8 HM
        go_wp2_with (first | (go_at_call 9; refine HSt.out.mono ?_; rintro e w' ⟨rfl, hw⟩; rw [hw]; clear hw w'))
        refine HTi.out.mono ?_
        rintro e w9 ⟨vo, rfl, S9⟩
        obtain ⟨a9, p9, c9, rfl, N9⟩ := sent_zero S9
        have KF := hid (M8.out.next N9).kept
        clear S9 N9 HTi HSt M8
        go_wp2
        go_ret
        exact ⟨rfl, below_of KF⟩
  · by_cases z1 : cf < 1
    · go_enter Try.func3, Try.ntmps3
      go_wp2_with fail
      refine (Ha.out _).mono ?_
      rintro e w2 ⟨rfl, hk2⟩
      go_wp2
      go_ret
      exact ⟨rfl, below_of hk2⟩
    · by_cases z2 : 20 < cf
      · go_enter Try.func3, Try.ntmps3
        go_wp2_with fail
        refine (Ha.out _).mono ?_
        rintro e w2 ⟨rfl, hk2⟩
        go_wp2
        go_ret
        exact ⟨rfl, below_of hk2⟩
      · by_cases z3 : wt < 1
        · go_enter Try.func3, Try.ntmps3
          go_wp2_with fail
          refine (Ha.out _).mono ?_
          rintro e w2 ⟨rfl, hk2⟩
          go_wp2
          go_ret
          exact ⟨rfl, below_of hk2⟩
        · have z4 : 20 < wt := by omega
          clear hok
          go_enter Try.func3, Try.ntmps3
          go_wp2_with fail
          refine (Ha.out _).mono ?_
          rintro e w2 ⟨rfl, hk2⟩
          go_wp2
          go_ret
          exact ⟨rfl, below_of hk2⟩
end Go.Proofs.Ytodgkmjiiijfpab
