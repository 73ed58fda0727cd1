/- The law AcStrange returns true. -/
import Derived.Test.YtgaamehjdoakhaaDoorAcAlive
namespace Go.Proofs.YtgaamehjdoakhaaDoor
open Go.RowKit

def strTags (sv c0 u : ByteArray) : List Tg := [⟨257, sv⟩, ⟨260, c0⟩, ⟨259, u⟩]
theorem str_257 (sv c0 u : ByteArray) : findF (strTags sv c0 u) 257 = (sv, 1) := rfl
theorem str_260 (sv c0 u : ByteArray) : findF (strTags sv c0 u) 260 = (c0, 1) := rfl
theorem str_259 (sv c0 u : ByteArray) : findF (strTags sv c0 u) 259 = (u, 1) := rfl
theorem str_ok {sv c0 u : ByteArray} (h : c0.size + sv.size + u.size ≤ 600) : AskOk (strTags sv c0 u) := by
  refine ⟨by simp [strTags], by simp [strTags, okT], ?_⟩
  simp [strTags, sizeT]
  omega

theorem admit_few (h : List UInt8) (sv u : ByteArray) : (admitF (c00 5) h sv u).2.2.sess.length ≤ 1 := by
  have e1 : unusedF (c00 5) h u = 0 := rfl
  unfold admitF
  by_cases h1 : servesF sv = false
  · rw [if_pos h1]; exact Nat.zero_le _
  · rw [if_neg h1, e1, if_neg (by simp)]
    by_cases h2 : roomF (c00 5) h = false
    · rw [if_pos h2]; exact Nat.zero_le _
    · rw [if_neg h2]
      exact Nat.le_refl 1

/-- What a Take of such a Padr comes to. -/
theorem strange_take {wA W : World} {B : Nat} (hm : CMine wA W B (c00 5)) (hT : Tabs wA) (h : List UInt8) (hh : h.length = 6) (sv c0 u : ByteArray) (hsz : c0.size + sv.size + u.size ≤ 600) (t : Int) (ht : In64 t) :
    Calls Tryd.prog 12 #[.pointer (some ⟨B, 0, none⟩), frV (askedF h m9 25 0 (strTags sv c0 u)), .int .i64 t] W fun e w' => ∃ p k cap c', e = .returned (.slice p k cap) ∧ (checkB sB h sv c0 t = false → k = 0 ∧ c'.sess = []) ∧ c'.sess.length ≤ 1 ∧ Good c' ∧ CMine wA w' B c' := by
  have hg := good_c00 5 (by omega) (by omega)
  have hok := str_ok hsz
  by_cases hown : h = m9
  · subst hown
    exact (CMine.own hm hg hok t).mono fun e w' ⟨he, hn⟩ => ⟨none, 0, 0, c00 5, he, fun _ => ⟨rfl, rfl⟩, Nat.zero_le _, hg, hn⟩
  · refine (CMine.padr hm hg hT.t hT.z hh hown hok t ht).mono ?_
    rintro e w' ⟨v, rfl, ho, hn⟩
    unfold grantF at ho hn
    rw [str_257, str_260, str_259] at ho hn
    by_cases hc : checkB (c00 5).secret h sv c0 t = false
    · rw [if_pos (Or.inr (Or.inr hc))] at ho hn
      obtain ⟨p, cap, rfl⟩ := slice_of ho
      exact ⟨p, 0, cap, c00 5, rfl, fun _ => ⟨rfl, rfl⟩, Nat.zero_le _, hg, hn⟩
    · rw [if_neg (by
        rintro (h1 | h1 | h1)
        · exact h1 rfl
        · cases h1
        · exact hc h1)] at ho hn
      obtain ⟨p, cap, rfl⟩ := slice_of ho
      exact ⟨p, _, cap, _, rfl, fun h1 => absurd h1 hc, admit_few h sv u, good_admit hg hh sv u, hn⟩

set_option maxHeartbeats 4000000 in
set_option maxRecDepth 100000 in
theorem acStrange_walk (h : List UInt8) (hh : h.length = 6) (c0 : ByteArray) (s0 : c0.size ≤ 140737488351232) (sv : ByteArray) (s1 : sv.size ≤ 140737488351232) (u : ByteArray) (s2 : u.size ≤ 140737488351232) (t : Int) (ht : In64 t) (w : World) (hT : Tabs w) :
    Calls Tryd.prog 5 #[.agg (Lib.byteCells h).toArray, .string c0, .string sv, .string u, .int .i64 t] w fun e w' => e = .returned (.bool true) ∧ Kept (fun _ => False) w w' := by
  obtain ⟨h0, h1, h2, h3, h4, h5, eh⟩ := six_cells hh
  have HAL := hid (fun W (hk : Kept (fun _ => False) w W) => alive_any W (hT.kept hk))
  have K0 := hid ((Kept.refl (fun _ => False) w).alloc (.cells #[.int .u8 h0, .int .u8 h1, .int .u8 h2, .int .u8 h3, .int .u8 h4, .int .u8 h5] 23))
  by_cases hsz : c0.size + sv.size + u.size ≤ 600
  · have HN := hid (new_mine 5 (by omega) (by omega))
    have HCk := hid (fun W (hT : Tables W) => check_any sB sv c0 h hh t ht.1 ht.2 (by decide) (by omega) (by unfold maxLen; omega) W hT)
    change Hid (∀ W, Tables W → Calls Tryd.prog 18 #[.string ⟨#[115]⟩, .agg (Lib.byteCells h).toArray, .string sv, .string c0, .int .i64 t] W fun r w' => r = .returned (.bool (checkB sB h sv c0 t)) ∧ Below W.heap.size W w') at HCk
    have HAK := hid (fun W v (hv : TagsAt W v (strTags sv c0 u)) => asked_any h m9 hh rfl 25 0 v (strTags sv c0 u) W hv (str_ok hsz).few.size)
    have HTK := hid (fun wA W B (hm : CMine wA W B (c00 5)) (hT : Tabs wA) => strange_take hm hT h hh sv c0 u hsz t ht)
    rw [eh] at HCk HAK ⊢
    change Hid (∀ W v, TagsAt W v (strTags sv c0 u) → Calls Tryd.prog 16 #[.agg #[.int .u8 h0, .int .u8 h1, .int .u8 h2, .int .u8 h3, .int .u8 h4, .int .u8 h5], .agg #[.int .u8 9, .int .u8 0, .int .u8 0, .int .u8 0, .int .u8 0, .int .u8 0], .int .i64 25, .int .i64 0, v] W fun e w' => e = .returned (frV (askedF h m9 25 0 (strTags sv c0 u))) ∧ Kept (fun _ => False) W w') at HAK
    generalize frV (askedF h m9 25 0 (strTags sv c0 u)) = FR at *
    generalize checkB sB h sv c0 t = good at *
    generalize c00 5 = ca at *
    obtain ⟨wA, hwA⟩ : ∃ wA, wA = (w.alloc (.cells #[.int .u8 h0, .int .u8 h1, .int .u8 h2, .int .u8 h3, .int .u8 h4, .int .u8 h5] 23)).alloc (.cells #[.int .u8 9, .int .u8 0, .int .u8 0, .int .u8 0, .int .u8 0, .int .u8 0] 23) := ⟨_, rfl⟩
    have HwA := hid hwA
    have kA : Hid (Kept (fun _ => False) w wA) := by rw [hwA]; exact ((Kept.refl _ w).alloc _).alloc _
    have BH : Hid (Box6 wA w.heap.size (.int .u8 h0) (.int .u8 h1) (.int .u8 h2) (.int .u8 h3) (.int .u8 h4) (.int .u8 h5)) := by rw [hwA]; exact (box6_new w _ _ _ _ _ _ _).alloc _
    have BM : Hid (Box6 wA (w.heap.size + 1) (.int .u8 9) (.int .u8 0) (.int .u8 0) (.int .u8 0) (.int .u8 0) (.int .u8 0)) := by
      rw [hwA]
      have h := box6_new (w.alloc (.cells #[.int .u8 h0, .int .u8 h1, .int .u8 h2, .int .u8 h3, .int .u8 h4, .int .u8 h5] 23)) 23 (.int .u8 9) (.int .u8 0) (.int .u8 0) (.int .u8 0) (.int .u8 0) (.int .u8 0)
      rw [show (w.alloc (.cells #[.int .u8 h0, .int .u8 h1, .int .u8 h2, .int .u8 h3, .int .u8 h4, .int .u8 h5] 23)).heap.size = w.heap.size + 1 from by simp] at h
      exact h
    have HTA := hid (hT.kept kA.out)
    have hsum : ¬ (600 : Int) < (c0.size : Int) + (sv.size : Int) + (u.size : Int) := by omega
    clear hwA hT
    go_enter Tryd.func5, Tryd.ntmps5
    go_wp2_with fail
    rw [← HwA.out]
    refine (HN.out _).mono ?_
    rintro e w1 ⟨B, rfl, hm1⟩
    have HM1 := hid hm1
    have K1 := hid hm1.kept
    obtain ⟨a0, a1, a2, a3, a4, a5⟩ := BH.out.kept K1.out
    obtain ⟨b0, b1, b2, b3, b4, b5⟩ := BM.out.kept K1.out
    clear hm1
    go_wp2_with fail
    refine (HCk.out _ (HTA.out.kept K1.out).t).mono ?_
    rintro e w2 ⟨rfl, hb2⟩
    have K2 := hid (K1.out.trans (kept_of hb2))
    have HM2 := hid (HM1.out.still (kept_of hb2))
    clear a0 a1 a2 a3 a4 a5 b0 b1 b2 b3 b4 b5 hb2
    obtain ⟨a0, a1, a2, a3, a4, a5⟩ := BH.out.kept K2.out
    obtain ⟨b0, b1, b2, b3, b4, b5⟩ := BM.out.kept K2.out
    have tg3 := hid (own_three w2 0 (Nat.zero_le _) 257 sv 260 c0 259 u).tags
    go_wp2_with fail
    refine (HAK.out _ _ tg3.out).mono ?_
    rintro e w3 ⟨rfl, hk3⟩
    have hk23 : Kept (fun _ => False) w2 w3 := ((Kept.refl _ w2).alloc _).trans hk3
    have HM3 := hid (HM2.out.still hk23)
    clear a0 a1 a2 a3 a4 a5 b0 b1 b2 b3 b4 b5 tg3 hk3 hk23
    go_wp2_with fail
    refine (HTK.out _ _ _ HM3.out HTA.out).mono ?_
    rintro e w4 ⟨p4, k4, q4, c', rfl, hno, hle, hg', hm4⟩
    have K4 := hid (kA.out.trans hm4.kept)
    have HM4 := hid hm4
    have HG4 := hid hg'
    clear hm4 HM3 HM2 HM1 hg'
    go_wp2_with fail
    refine (HAL.out _ K4.out).mono ?_
    rintro e w5 ⟨rfl, hk5⟩
    have HM5 := hid (HM4.out.still hk5)
    go_wp2_with fail
    refine (CMine.live HM5.out HG4.out).mono ?_
    rintro e w6 ⟨v6, L, rfl, hp, _, ha, hm6⟩
    obtain ⟨p6, c6, rfl⟩ := ha.slice
    have hL : L.length ≤ 1 := by rw [hp.length_eq]; exact hle
    have hL1 : (L.length : Int) ≤ 1 := by omega
    have HM6 := hid hm6
    clear ha hm6
    cases good with
    | true =>
      go_wp2
      go_ret
      exact ⟨rfl, kA.out.trans HM6.out.kept⟩
    | false =>
      obtain ⟨rfl, hs0⟩ := hno rfl
      have hL0 : L = [] := by rw [hs0] at hp; exact List.perm_nil.1 hp
      subst hL0
      go_wp2_with fail
      refine (CMine.live HM6.out HG4.out).mono ?_
      rintro e w7 ⟨v7, L7, rfl, hp7, _, ha7, hm7⟩
      obtain ⟨p7, c7, rfl⟩ := ha7.slice
      have hL7 : L7 = [] := by rw [hs0] at hp7; exact List.perm_nil.1 hp7
      subst hL7
      have HM7 := hid hm7
      clear ha7 hm7
      go_wp2
      go_ret
      exact ⟨rfl, kA.out.trans HM7.out.kept⟩
  · have hsum : (600 : Int) < (c0.size : Int) + (sv.size : Int) + (u.size : Int) := by omega
    rw [eh]
    clear hT
    go_enter Tryd.func5, Tryd.ntmps5
    go_wp2_with fail
    refine (HAL.out _ K0.out).mono ?_
    rintro e w1 ⟨rfl, hk1⟩
    go_wp2
    go_ret
    exact ⟨rfl, K0.out.trans hk1⟩
end Go.Proofs.YtgaamehjdoakhaaDoor
