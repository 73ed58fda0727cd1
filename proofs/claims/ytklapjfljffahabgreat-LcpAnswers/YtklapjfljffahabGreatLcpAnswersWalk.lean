/- The walk of LcpAnswers. -/
import Derived.Test.YtklapjfljffahabGreatLpUp
namespace Go.Proofs.YtklapjfljffahabGreat
open Go.RowKit

theorem extract_none (s : ByteArray) : s.extract s.size s.size = ⟨#[]⟩ := by
  have h : (s.extract s.size s.size).size = 0 := by rw [ByteArray.size_extract]; omega
  apply ByteArray.ext
  exact Array.eq_empty_of_size_eq_zero h
theorem lR1_ups : lR1.ng.ups = 1 := by kernel_rfl
theorem lR1_downs : lR1.ng.downs = 0 := by kernel_rfl
theorem echoA (s T : ByteArray) (h : s.extract (min s.size 4) s.size = T) : echoD lR1 s = ⟨#[0, 0, 0, 7]⟩ ++ T := by
  unfold echoD
  rw [h, show numF lR1.magic 4 = ⟨#[0, 0, 0, 7]⟩ from by kernel_rfl]

set_option maxHeartbeats 8000000 in
set_option maxRecDepth 100000 in
theorem lcpAnswers_walk (id : Int) (s : ByteArray) (w : World) (_h1 : In64 id) (_h2 : s.size ≤ 140737488351232) :
    Calls Tryz.prog 3 #[.int .i64 id, .string s] w fun e w' => e = .returned (.bool true) ∧ Below w.heap.size w w' := by
  have Ha := hid lawAlive_any
  by_cases hs : s.size ≤ 1000
  case neg =>
    have z5 : (1000 : Int) < (s.size : Int) := by omega
    clear hs
    go_enter Tryz.func3, Tryz.ntmps3
    go_wp2_with fail
    refine (Ha.out _).mono ?_
    rintro e w2 ⟨rfl, hk2⟩
    go_wp2
    go_ret
    exact ⟨rfl, below_kept hk2⟩
  have z5 : ¬ (1000 : Int) < (s.size : Int) := by omega
  have HCf := hid lawConfig_any
  have HOp := hid (fun W => options_any cA W)
  simp only [askA] at HOp
  have HNw := hid (fun (W : World) (hb : w.heap.size ≤ W.heap.size) => lcpNew_nil cA goodA ⟨by decide, by decide⟩ ⟨by decide, by decide⟩ ⟨by decide, by decide⟩ ⟨by decide, by decide⟩ w.heap.size W hb)
  unfold cfV at HCf HOp HNw
  simp only [show cA.mru = 1492 from rfl, show cA.auth = 49699 from rfl, show cA.magic = 7 from rfl, show cA.echo = 0 from rfl, show cA.cf = 5 from rfl, show cA.tm = 2 from rfl, show cA.fails = 5 from rfl, show cA.wait = 3 from rfl] at HCf HOp HNw
  go_enter Tryz.func3, Tryz.ntmps3
  go_wp2_with fail
  refine (HCf.out _).mono ?_
  rintro e w1 ⟨rfl, hk1⟩
  have K1 := hid hk1
  have HN := hid (HNw.out w1 K1.out.size)
  clear hk1 HNw
  go_wp2_with fail
  refine HN.out.mono ?_
  rintro e w3 ⟨b, m, rfl, hL, hk3, _⟩
  have M3 : Hid (LMine w w3 b m lR0) := ⟨hL, K1.out.trans hk3⟩
  have hE := eqLcpSome ⟨b, 0, none⟩
  clear hL hk3 HN K1
  go_wp2_with fail
  refine (HCf.out _).mono ?_
  rintro e w4 ⟨rfl, hk4⟩
  have M4 := hid (M3.out.still hk4)
  clear hk4 M3
  go_wp2_with fail
  refine (HOp.out _).mono ?_
  rintro e w5 ⟨u5, rfl, ho5, hk5⟩
  have M5 := hid (M4.out.still hk5)
  have HAd := hid (adoptA M5.out lR0_st ho5)
  obtain ⟨p5, c5, rfl⟩ := slice_of ho5
  clear ho5 hk5 M4
  go_wp2_with fail
  refine HAd.out.mono ?_
  rintro e w6 ⟨rfl, m6, hm6⟩
  have M6 : Hid (LMine w w6 b m6 lR1) := hm6
  clear hm6 HAd M5
  have HTk := hid (lcpTake_echo id s hs w6 M6.out.lcp lR1_st)
  obtain ⟨T, hT⟩ : ∃ T, s.extract (min s.size 4) s.size = T := ⟨_, rfl⟩
  rw [echoA s T hT] at HTk
  have hcat : ¬ 9223372036854775807 < (⟨#[0, 0, 0, 7]⟩ : ByteArray).size + T.size := by
    rw [← hT, ByteArray.size_extract]
    have : (⟨#[0, 0, 0, 7]⟩ : ByteArray).size = 4 := rfl
    omega
  have hcase : ((4 : Int) < (s.size : Int) ∧ ∀ W : World, (Instr.slice 9 (.string s) (some (.int .i64 4)) none none).run Tryz.prog W = .ok (.string T) W) ∨ (¬ (4 : Int) < (s.size : Int) ∧ T = ⟨#[]⟩) := by
    by_cases h4 : 4 < s.size
    · refine Or.inl ⟨by omega, fun W => ?_⟩
      rw [← hT, Nat.min_eq_right (by omega)]
      exact last_at s 4 (by omega) 4 rfl W
    · refine Or.inr ⟨by omega, ?_⟩
      rw [← hT, Nat.min_eq_left (by omega)]
      exact extract_none s
  clear hT hs
  go_wp2_with fail
  refine HTk.out.mono ?_
  rintro e w7 ⟨vo, rfl, S7⟩
  obtain ⟨m7, g7, c7, u7, rfl, hc7, N7, R7, _, _, _⟩ := lsent_one S7
  have M7 := hid (M6.out.next N7)
  have HR7 := hid R7
  clear S7 N7 R7 HTk
  have HU := hid (lcpUps_any w7 M7.out.lcp)
  rw [lR1_ups, lR1_downs] at HU
  rcases hcase with ⟨h4, hsl⟩ | ⟨h4, rfl⟩
  all_goals
    go_wp2_with fail
    refine HU.out.mono ?_
    rintro e w8 ⟨rfl, hk8⟩
    have M8 := hid (M7.out.still hk8)
    have R8 := hid (HR7.out.kept hk8 (fun h => h))
    clear hk8
    go_wp2_with fail
    refine (Ha.out _).mono ?_
    rintro e w9 ⟨rfl, hk9⟩
    have M9 := hid (M8.out.still hk9)
    obtain ⟨_, r0, r1, _, r3⟩ := R8.out.kept hk9 (fun h => h)
    have HSt := hid (lcpState_any w9 M9.out.lcp)
    rw [lR1_st] at HSt
    clear hk9
    try simp only at r0 r1 r3
    go_wp2_with (first | (go_at_call 11; refine HSt.out.mono ?_; rintro e w' ⟨rfl, hw⟩; rw [hw]; clear hw w'))
    go_ret
    exact ⟨rfl, below_kept M9.out.kept⟩
end Go.Proofs.YtklapjfljffahabGreat
