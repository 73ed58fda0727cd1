/- The law PapBack: it returns true for every name, secret and bytes, and leaves what was there. -/
import Derived.Test.YtifkiiplknkgnaaPaAlive
namespace Go.Proofs.Ytifkiiplknkgnaa
open Go.RowKit

theorem putReqF_ok {n s : ByteArray} (h : (putReqF n s).2 = 0) : n.size ≤ 60 ∧ s.size ≤ 60 ∧ putReqF n s = (layF n ++ layF s, 0) := by
  unfold putReqF at *
  by_cases h1 : (longB n || longB s) = true
  · rw [if_pos h1] at h
    exact absurd h (by decide)
  · rw [if_neg h1]
    simp only [Bool.or_eq_true, not_or, Bool.not_eq_true] at h1
    exact ⟨longB_no h1.1, longB_no h1.2, rfl⟩

set_option maxHeartbeats 1000000 in
set_option maxRecDepth 100000 in
theorem papBack_walk (n s more : ByteArray) (w : World) (hn : n.size ≤ 140737488351232) (hs : s.size ≤ 140737488351232) (hm : more.size ≤ 140737488351232) :
    Calls Try.prog 4 #[.string n, .string s, .string more] w fun e w' => e = .returned (.bool true) ∧ Below w.heap.size w w' := by
  have Ha := hid aliveP_any
  have HP := hid (putReq_any n s hn hs w)
  by_cases h0 : (putReqF n s).2 = 0
  · obtain ⟨n6, s6, e0⟩ := putReqF_ok h0
    rw [e0] at HP
    simp only at HP
    have hS : (layF n ++ layF s).size = 2 + n.size + s.size := by rw [ByteArray.size_append, layF_size, layF_size]; omega
    have G1 := hid (getReq_any (layF n ++ layF s) (by omega))
    rw [getReqF_put n s n6 s6] at G1
    have L1 := hid (putSay_any n hn)
    have L2 := hid (getSay_any (layF n) (by rw [layF_size]; omega))
    have e1 : putSayF n = (layF n, 0) := by unfold putSayF; rw [if_neg (by simp [longB]; omega)]
    have e2 : getSayF (layF n) = (n, 0) := by unfold getSayF; rw [if_neg (by rw [layF_size]; omega), onlyF_lay n n6]
    rw [e1] at L1
    rw [e2] at L2
    have c1 := first_at (layF n ++ layF s) ((layF n ++ layF s).size - 1) (by omega) (((layF n ++ layF s).size : Int) - 1) (by omega)
    have G3 := hid (getReq_any ((layF n ++ layF s).extract 0 ((layF n ++ layF s).size - 1)) (by rw [ByteArray.size_extract]; omega))
    rw [getReqF_cut n s n6 s6 ((layF n ++ layF s).size - 1) (by omega)] at G3
    by_cases hm0 : more.size = 0
    · obtain rfl := str_nil more hm0
      clear hm0 h0 e0 e1 e2
      generalize layF n ++ layF s = S at *
      generalize layF n = N at *
      clear hS c1 G1 G3 L1 L2
      go_enter Try.func4, Try.ntmps4
      go_wp2_with fail
      refine HP.out.mono ?_
      rintro e w1 ⟨rfl, hk1⟩
      go_wp2_with fail
      refine (Ha.out _).mono ?_
      rintro e w2 ⟨rfl, hk2⟩
      go_wp2
      go_ret
      exact ⟨rfl, below_of (hk1.trans hk2)⟩
    · have hne := str_has hm0
      have hne0 : ¬ more.toList = [] := by rw [← List.isEmpty_iff, hne]; simp
      by_cases hm3 : 300 < more.size
      · have hm3z : (300 : Int) < (more.size : Int) := by omega
        clear hm0 h0 e0 e1 e2
        generalize layF n ++ layF s = S at *
        generalize layF n = N at *
        clear hS c1 G1 G3 L1 L2
        go_enter Try.func4, Try.ntmps4
        go_wp2_with fail
        refine HP.out.mono ?_
        rintro e w1 ⟨rfl, hk1⟩
        go_wp2_with fail
        refine (Ha.out _).mono ?_
        rintro e w2 ⟨rfl, hk2⟩
        go_wp2
        go_ret
        exact ⟨rfl, below_of (hk1.trans hk2)⟩
      · have hm3z : ¬ (300 : Int) < (more.size : Int) := by omega
        have G2 := hid (getReq_any (layF n ++ layF s ++ more) (by rw [ByteArray.size_append]; omega))
        rw [getReqF_more n s more n6 s6 hm0] at G2
        have hno : ¬ (9223372036854775807 < (layF n ++ layF s).size + more.size) := by omega
        have hs2 : ¬ ((layF n ++ layF s).size : Int) < 2 := by omega
        have hS1 : (layF n ++ layF s).size ≤ 200 := by omega
        clear hm0 h0 e0 e1 e2 hm3 hS
        generalize layF n ++ layF s = S at *
        generalize layF n = N at *
        generalize S.extract 0 (S.size - 1) = C at *
        go_enter Try.func4, Try.ntmps4
        go_wp2_with fail
        refine HP.out.mono ?_
        rintro e w1 ⟨rfl, hk1⟩
        go_wp2_with fail
        refine (G1.out _).mono ?_
        rintro e w2 ⟨rfl, hk2⟩
        go_wp2_with fail
        refine (G2.out _).mono ?_
        rintro e w3 ⟨rfl, hk3⟩
        go_wp2_with fail
        refine (G3.out _).mono ?_
        rintro e w4 ⟨rfl, hk4⟩
        go_wp2_with fail
        refine (L1.out _).mono ?_
        rintro e w5 ⟨rfl, hk5⟩
        go_wp2_with fail
        refine (L2.out _).mono ?_
        rintro e w6 ⟨rfl, hk6⟩
        go_wp2_with fail
        refine (Ha.out _).mono ?_
        rintro e w7 ⟨rfl, hk7⟩
        have HK := hid ((((((hk1.trans hk2).trans hk3).trans hk4).trans hk5).trans hk6).trans hk7)
        clear hk1 hk2 hk3 hk4 hk5 hk6 hk7
        go_wp2
        go_ret
        exact ⟨rfl, below_of HK.out⟩
  · generalize putReqF n s = R at *
    obtain ⟨X, E⟩ := R
    simp only at HP h0
    have hE : (E != 0) = true := by simpa using h0
    clear h0
    go_enter Try.func4, Try.ntmps4
    go_wp2_with fail
    refine HP.out.mono ?_
    rintro e w1 ⟨rfl, hk1⟩
    go_wp2_with fail
    refine (Ha.out _).mono ?_
    rintro e w2 ⟨rfl, hk2⟩
    go_wp2
    go_ret
    exact ⟨rfl, below_of (hk1.trans hk2)⟩
end Go.Proofs.Ytifkiiplknkgnaa
