/- The law OptsLists: it returns true for every two lists of options, and leaves what was there. -/
import Derived.Test.YtdifdcceigoedaaOptsFindsWalk
namespace Go.Proofs.Ytdifdcceigoedaa
open Go.RowKit

theorem putOpts_ok {l : List Tg} (h : (putOptsF l).2 = 0) : l.length ≤ 30 ∧ l.all okO = true ∧ putOptsF l = (bytesO l, 0) := by
  unfold putOptsF at *
  by_cases h1 : 30 < l.length
  · rw [if_pos h1] at h
    exact absurd h (by decide)
  · rw [if_neg h1] at h
    by_cases h2 : l.all okO = false
    · rw [if_pos h2] at h
      exact absurd h (by decide)
    · rw [if_neg h1, if_neg h2]
      exact ⟨by omega, by simpa using h2, rfl⟩
theorem putOpts_size {l : List Tg} : (putOptsF l).1.length ≤ 7650 := by
  by_cases h : (putOptsF l).2 = 0
  · obtain ⟨h1, h2, h3⟩ := putOpts_ok h
    have := sizeO_le h2
    rw [h3]
    show (bytesO l).length ≤ _
    rw [bytesO_length]
    omega
  · unfold putOptsF at *
    split
    · simp
    · split
      · simp
      · rename_i h1 h2
        rw [if_neg h1, if_neg h2] at h
        exact absurd rfl h

set_option maxHeartbeats 1000000 in
set_option maxRecDepth 100000 in
theorem optsLists_not (v : Value) (l : List Tg) (u : Value) (m : List Tg) (w : World) (hv : TagsAt w v l) (hln : l.length ≤ maxLen) (hsz : ∀ x ∈ l, x.value.size ≤ 140737488351232) (hu : TagsAt w u m) (hmn : m.length ≤ maxLen) (hsm : ∀ x ∈ m, x.value.size ≤ 140737488351232)
    (h : lightO l = false ∨ (lightO l = true ∧ lightO m = false)) :
    Calls Try.prog 4 #[v, u] w fun e w' => e = .returned (.bool true) ∧ Below w.heap.size w w' := by
  have Ha := hid aliveO_any
  rcases h with h | ⟨h, h6⟩
  · have HL := lightHid hv hln hsz h
    clear hv hsz hu hsm hln hmn h
    go_enter Try.func4, Try.ntmps4
    go_wp2_with fail
    refine (HL.out _ (Kept.refl _ _)).mono ?_
    rintro e w1 ⟨rfl, hk1⟩
    have HK1 := hid hk1
    clear hk1
    go_wp2_with fail
    refine (Ha.out _).mono ?_
    rintro e w2 ⟨rfl, hk2⟩
    go_wp2
    go_ret
    exact ⟨rfl, below_of (HK1.out.trans hk2)⟩
  · have HL := lightHid hv hln hsz h
    have HM := lightHid hu hmn hsm h6
    clear hv hsz hu hsm hln hmn h h6
    go_enter Try.func4, Try.ntmps4
    go_wp2_with fail
    refine (HL.out _ (Kept.refl _ _)).mono ?_
    rintro e w1 ⟨rfl, hk1⟩
    have HK1 := hid hk1
    clear hk1
    go_wp2_with fail
    refine (HM.out _ HK1.out).mono ?_
    rintro e w3 ⟨rfl, hk3⟩
    have HK3 := hid (HK1.out.trans hk3)
    clear hk3
    go_wp2_with fail
    refine (Ha.out _).mono ?_
    rintro e w2 ⟨rfl, hk2⟩
    go_wp2
    go_ret
    exact ⟨rfl, below_of (HK3.out.trans hk2)⟩

set_option maxHeartbeats 4000000 in
set_option maxRecDepth 100000 in
theorem optsLists_err (v : Value) (l : List Tg) (u : Value) (m : List Tg) (w : World) (hv : TagsAt w v l) (hln : l.length ≤ maxLen) (hsz : ∀ x ∈ l, x.value.size ≤ 140737488351232) (hu : TagsAt w u m) (hmn : m.length ≤ maxLen) (hsm : ∀ x ∈ m, x.value.size ≤ 140737488351232)
    (hl : lightO l = true) (hm : lightO m = true) (he : ((putOptsF l).2 != 0) = true ∨ (((putOptsF l).2 != 0) = false ∧ ((putOptsF m).2 != 0) = true)) :
    Calls Try.prog 4 #[v, u] w fun e w' => e = .returned (.bool true) ∧ Below w.heap.size w w' := by
  have Ha := hid aliveO_any
  have HL := lightHid hv hln hsz hl
  have HM := lightHid hu hmn hsm hm
  have HP1 := hid (fun W (h : Kept (fun _ => False) w W) => putOpts_any v l W (hv.kept0 h) hsz)
  have HP2 := hid (fun W (h : Kept (fun _ => False) w W) => putOpts_any u m W (hu.kept0 h) hsm)
  generalize (putOptsF l).2 = E1 at *
  generalize (putOptsF m).2 = E2 at *
  generalize (putOptsF l).1.toArray = S1 at *
  generalize (putOptsF m).1.toArray = S2 at *
  clear hv hu hsz hsm hln hmn hl hm
  rcases he with he | ⟨he, he2⟩
  all_goals
    go_enter Try.func4, Try.ntmps4
    go_wp2_with fail
    refine (HL.out _ (Kept.refl _ _)).mono ?_
    rintro e1 w1 ⟨rfl, hk1⟩
    have K1 := hid hk1
    clear hk1 HL
    go_wp2_with fail
    refine (HM.out _ K1.out).mono ?_
    rintro e2 w2 ⟨rfl, hk2⟩
    have K2 := hid (K1.out.trans hk2)
    clear hk2 HM K1
    go_wp2_with fail
    refine (HP1.out _ K2.out).mono ?_
    rintro e3 w3 ⟨rfl, hk3⟩
    have K3 := hid (K2.out.trans hk3)
    clear hk3 HP1 K2
    go_wp2_with fail
    refine (HP2.out _ K3.out).mono ?_
    rintro e4 w4 ⟨rfl, hk4⟩
    have K4 := hid (K3.out.trans hk4)
    clear hk4 HP2 K3
    go_wp2_with fail
    refine (Ha.out _).mono ?_
    rintro e5 w5 ⟨rfl, hk5⟩
    go_wp2
    go_ret
    exact ⟨rfl, below_of (K4.out.trans hk5)⟩

set_option maxHeartbeats 4000000 in
set_option maxRecDepth 100000 in
theorem optsLists_in (v : Value) (l : List Tg) (u : Value) (m : List Tg) (w : World) (hv : TagsAt w v l) (hln : l.length ≤ maxLen) (hsz : ∀ x ∈ l, x.value.size ≤ 140737488351232) (hu : TagsAt w u m) (hmn : m.length ≤ maxLen) (hsm : ∀ x ∈ m, x.value.size ≤ 140737488351232)
    (hl : lightO l = true) (hm : lightO m = true) (he1 : (putOptsF l).2 = 0) (he2 : (putOptsF m).2 = 0) :
    Calls Try.prog 4 #[v, u] w fun e w' => e = .returned (.bool true) ∧ Below w.heap.size w w' := by
  have Ha := hid aliveO_any
  have HL := lightHid hv hln hsz hl
  have HM := lightHid hu hmn hsm hm
  have HP1 := hid (fun W (h : Kept (fun _ => False) w W) => putOpts_any v l W (hv.kept0 h) hsz)
  have HP2 := hid (fun W (h : Kept (fun _ => False) w W) => putOpts_any u m W (hu.kept0 h) hsm)
  obtain ⟨hl3, hla, hle⟩ := putOpts_ok he1
  obtain ⟨hm3, hma, hme⟩ := putOpts_ok he2
  have hz1 := putOpts_size (l := l)
  have hz2 := putOpts_size (l := m)
  rw [hle] at HP1 hz1
  rw [hme] at HP2 hz2
  simp only at HP1 HP2 hz1 hz2
  obtain ⟨S1, hS1⟩ : ∃ S : ByteArray, S = ⟨(bytesO l).toArray⟩ := ⟨_, rfl⟩
  obtain ⟨S2, hS2⟩ : ∃ S : ByteArray, S = ⟨(bytesO m).toArray⟩ := ⟨_, rfl⟩
  rw [← hS1] at HP1
  rw [← hS2] at HP2
  have z1 : S1.size ≤ 7650 := by rw [Lib.size_eq, hS1]; exact hz1
  have z2 : S2.size ≤ 7650 := by rw [Lib.size_eq, hS2]; exact hz2
  have HG := hid (getOpts_any (S1 ++ S2) (by rw [ByteArray.size_append]; omega))
  have eS : (S1 ++ S2).data.toList = bytesO l ++ (bytesO m ++ []) := by rw [ByteArray.data_append, hS1, hS2]; simp
  rw [eS] at HG
  have hno : ¬ (9223372036854775807 < S1.size + S2.size) := by omega
  have HSm := hid (fun W x k y k' (hx : OwnO W k x (l ++ m)) (hy : OwnO W k' y (l ++ m)) => sameO_any x y (l ++ m) (l ++ m) W hx.tags hy.tags (by rw [List.length_append]; omega))
  rw [sameF_self] at HSm
  have HA1 := hid (fun W (h : Kept (fun _ => False) w W) w0 (hk0 : Kept (fun _ => False) w0 W) => appendO_run (w0 := w0) hk0 (OwnO.nil W w0.heap.size) (hv.kept0 h) (by simp; omega))
  have HA2 := hid (fun W (h : Kept (fun _ => False) w W) w0 x (hk0 : Kept (fun _ => False) w0 W) (ho : OwnO W w0.heap.size x l) => appendO_run (w0 := w0) hk0 ho (hu.kept0 h) (by omega))
  obtain ⟨p, cap, rfl⟩ := hv.slice
  obtain ⟨q, cbp, rfl⟩ := hu.slice
  by_cases hbig : 30 < l.length + m.length
  · rw [optsOn_all l hla _ [] (by simp; omega), optsOn_many m hma [] _ (by simp; omega) (by simp; omega)] at HG
    have hbz : (30 : Int) < (l.length : Int) + (m.length : Int) := by omega
    clear hv hu hsz hsm hln hmn hl hm he1 he2 hla hma hle hme hS1 hS2 eS hz1 hz2 HSm HA1 HA2
    go_enter Try.func4, Try.ntmps4
    go_wp2_with fail
    refine (HL.out _ (Kept.refl _ _)).mono ?_
    rintro e1 w1 ⟨rfl, hk1⟩
    have K1 := hid hk1
    clear hk1 HL
    go_wp2_with fail
    refine (HM.out _ K1.out).mono ?_
    rintro e2 w2 ⟨rfl, hk2⟩
    have K2 := hid (K1.out.trans hk2)
    clear hk2 HM K1
    go_wp2_with fail
    refine (HP1.out _ K2.out).mono ?_
    rintro e3 w3 ⟨rfl, hk3⟩
    have K3 := hid (K2.out.trans hk3)
    clear hk3 HP1 K2
    go_wp2_with fail
    refine (HP2.out _ K3.out).mono ?_
    rintro e4 w4 ⟨rfl, hk4⟩
    have K4 := hid (K3.out.trans hk4)
    clear hk4 HP2 K3
    go_wp2_with fail
    refine (HG.out _).mono ?_
    rintro e5 w5 ⟨v5, rfl, ho5, hk5⟩
    obtain ⟨p5, c5, rfl⟩ := slice_of ho5
    have K5 := hid (K4.out.trans hk5)
    clear hk5 HG K4 ho5
    go_wp2_with fail
    refine (Ha.out _).mono ?_
    rintro e6 w6 ⟨rfl, hk6⟩
    have K6 := hid (K5.out.trans hk6)
    clear hk6 K5
    go_wp2
    go_ret
    exact ⟨rfl, below_of K6.out⟩
  · rw [optsOn_all l hla _ [] (by simp; omega), optsOn_all m hma [] _ (by simp; omega), optsOn_nil, List.nil_append] at HG
    have hbz : ¬ (30 : Int) < (l.length : Int) + (m.length : Int) := by omega
    clear hv hu hsz hsm hln hmn hl hm he1 he2 hla hma hle hme hS1 hS2 eS hz1 hz2
    go_enter Try.func4, Try.ntmps4
    go_wp2_with fail
    refine (HL.out _ (Kept.refl _ _)).mono ?_
    rintro e1 w1 ⟨rfl, hk1⟩
    have K1 := hid hk1
    clear hk1 HL
    go_wp2_with fail
    refine (HM.out _ K1.out).mono ?_
    rintro e2 w2 ⟨rfl, hk2⟩
    have K2 := hid (K1.out.trans hk2)
    clear hk2 HM K1
    go_wp2_with fail
    refine (HP1.out _ K2.out).mono ?_
    rintro e3 w3 ⟨rfl, hk3⟩
    have K3 := hid (K2.out.trans hk3)
    clear hk3 HP1 K2
    go_wp2_with fail
    refine (HP2.out _ K3.out).mono ?_
    rintro e4 w4 ⟨rfl, hk4⟩
    have K4 := hid (K3.out.trans hk4)
    clear hk4 HP2 K3
    go_wp2_with fail
    refine (HG.out _).mono ?_
    rintro e5 w5 ⟨v5, rfl, ho5, hk5⟩
    obtain ⟨p5, c5, rfl⟩ := slice_of ho5
    have K5 := hid (K4.out.trans hk5)
    have O5 := hid ho5
    obtain ⟨N5, hN5⟩ : ∃ N, N = (l ++ m).length := ⟨_, rfl⟩
    rw [← hN5] at O5 ⊢
    clear hk5 HG K4 ho5 hN5
    go_wp2_with fail
    refine (Ha.out _).mono ?_
    rintro e6 w6 ⟨rfl, hk6⟩
    have K6 := hid (K5.out.trans hk6)
    have O6 := hid (O5.out.kept hk6)
    clear hk6 K5 O5
    obtain ⟨v7, w7, hr7, ho7, hk7⟩ := HA1.out w6 K6.out w6 (Kept.refl _ _)
    rw [List.nil_append] at ho7
    obtain ⟨v8, w8, hr8, ho8, hk8⟩ := HA2.out w7 (K6.out.trans hk7) w6 v7 hk7 ho7
    have K8 := hid (K6.out.trans hk8)
    have O8 := hid ho8
    have P8 := hid (O6.out.kept hk8)
    clear ho7 ho8 hk7 hk8 HA1 HA2
    go_wp2_with (first | (at_builtin; refine wpList_append_wanted _ (by kernel_rfl) _ _ _ _ rfl _ _ rfl rfl _ _ (hr7 _) ?_) | (at_builtin; refine wpList_append_wanted _ (by kernel_rfl) _ _ _ _ rfl _ _ rfl rfl _ _ (hr8 _) ?_) | fail)
    refine (HSm.out _ _ _ _ _ P8.out O8.out).mono ?_
    rintro e9 w9 ⟨rfl, hk9⟩
    have K9 := hid (K8.out.trans hk9)
    clear hk9 K8
    go_wp2
    go_ret
    exact ⟨rfl, below_of K9.out⟩

theorem optsLists_walk (v : Value) (l : List Tg) (u : Value) (m : List Tg) (w : World) (hv : TagsAt w v l) (hln : l.length ≤ maxLen) (hsz : ∀ x ∈ l, x.value.size ≤ 140737488351232) (hu : TagsAt w u m) (hmn : m.length ≤ maxLen) (hsm : ∀ x ∈ m, x.value.size ≤ 140737488351232) :
    Calls Try.prog 4 #[v, u] w fun e w' => e = .returned (.bool true) ∧ Below w.heap.size w w' := by
  cases h : lightO l with
  | false => exact optsLists_not v l u m w hv hln hsz hu hmn hsm (Or.inl h)
  | true =>
    cases h2 : lightO m with
    | false => exact optsLists_not v l u m w hv hln hsz hu hmn hsm (Or.inr ⟨h, h2⟩)
    | true =>
      by_cases e1 : (putOptsF l).2 = 0
      · by_cases e2 : (putOptsF m).2 = 0
        · exact optsLists_in v l u m w hv hln hsz hu hmn hsm h h2 e1 e2
        · exact optsLists_err v l u m w hv hln hsz hu hmn hsm h h2 (Or.inr ⟨by simp [e1], by simpa using e2⟩)
      · exact optsLists_err v l u m w hv hln hsz hu hmn hsm h h2 (Or.inl (by simpa using e1))
end Go.Proofs.Ytdifdcceigoedaa
