/- The law OptsFinds: it returns true for every two lists of options and every type, and leaves what was there. -/
import Derived.Test.YtdifdcceigoedaaOpApp
import Derived.Deep.DeepCutAuto
namespace Go.Proofs.Ytdifdcceigoedaa
open Go.RowKit

theorem findOB_append (l m : List Tg) (kind : Int) : findOB (l ++ m) kind = if (findO l kind).isSome = true then findOB l kind else findOB m kind := by
  unfold findOB
  rw [findO_append]
  cases findO l kind <;> simp
theorem findO_append_some (l m : List Tg) (kind : Int) : (findO (l ++ m) kind).isSome = ((findO l kind).isSome || (findO m kind).isSome) := by
  rw [findO_append]
  cases findO l kind <;> simp
theorem sameF_comm (l m : List Tg) : sameF l m = sameF m l := by
  rw [Bool.eq_iff_iff, sameF_iff, sameF_iff]
  exact eq_comm

/-- What a law asks ahead: both lists are light, or it is alive. -/
theorem lightHid {v : Value} {l : List Tg} {w : World} (hv : TagsAt w v l) (hln : l.length ≤ maxLen) (hsz : ∀ x ∈ l, x.value.size ≤ 140737488351232) {b : Bool} (hb : lightO l = b) :
    Hid (∀ W, Kept (fun _ => False) w W → Calls Try.prog 7 #[v] W fun e w' => e = .returned (.bool b) ∧ Kept (fun _ => False) W w') := fun W h => by
  have := lightO_any v l W (hv.kept0 h) hln hsz
  rw [hb] at this
  exact this

set_option maxHeartbeats 1000000 in
set_option maxRecDepth 100000 in
theorem optsFinds_not (v : Value) (l : List Tg) (u : Value) (m : List Tg) (kind : Int) (w : World) (hv : TagsAt w v l) (hln : l.length ≤ maxLen) (hsz : ∀ x ∈ l, x.value.size ≤ 140737488351232) (hu : TagsAt w u m) (hmn : m.length ≤ maxLen) (hsm : ∀ x ∈ m, x.value.size ≤ 140737488351232)
    (h : lightO l = false ∨ (lightO l = true ∧ lightO m = false)) :
    Calls Try.prog 5 #[v, u, .int .i64 kind] w fun e w' => e = .returned (.bool true) ∧ Below w.heap.size w w' := by
  have Ha := hid aliveO_any
  rcases h with h | ⟨h, h6⟩
  · have HL := lightHid hv hln hsz h
    clear hv hsz hu hsm hln hmn h
    go_enter Try.func5, Try.ntmps5
    go_wp2_with fail
    refine (HL.out _ (Kept.refl _ _)).mono ?_
    rintro e w1 ⟨rfl, hk1⟩
    have HK1 := hid hk1
    clear hk1
    go_wp2_with fail
    refine (Ha.out _).mono ?_
    rintro e w2 ⟨rfl, hk2⟩
    go_wp2
    go_ret
    exact ⟨rfl, below_of (HK1.out.trans hk2)⟩
  · have HL := lightHid hv hln hsz h
    have HM := lightHid hu hmn hsm h6
    clear hv hsz hu hsm hln hmn h h6
    go_enter Try.func5, Try.ntmps5
    go_wp2_with fail
    refine (HL.out _ (Kept.refl _ _)).mono ?_
    rintro e w1 ⟨rfl, hk1⟩
    have HK1 := hid hk1
    clear hk1
    go_wp2_with fail
    refine (HM.out _ HK1.out).mono ?_
    rintro e w3 ⟨rfl, hk3⟩
    have HK3 := hid (HK1.out.trans hk3)
    clear hk3
    go_wp2_with fail
    refine (Ha.out _).mono ?_
    rintro e w2 ⟨rfl, hk2⟩
    go_wp2
    go_ret
    exact ⟨rfl, below_of (HK3.out.trans hk2)⟩

set_option maxHeartbeats 4000000 in
set_option maxRecDepth 100000 in
theorem optsFinds_in (v : Value) (l : List Tg) (u : Value) (m : List Tg) (kind : Int) (w : World) (hv : TagsAt w v l) (hln : l.length ≤ maxLen) (hsz : ∀ x ∈ l, x.value.size ≤ 140737488351232) (hu : TagsAt w u m) (hmn : m.length ≤ maxLen) (hsm : ∀ x ∈ m, x.value.size ≤ 140737488351232)
    (hl : lightO l = true) (hm : lightO m = true) :
    Calls Try.prog 5 #[v, u, .int .i64 kind] w fun e w' => e = .returned (.bool true) ∧ Below w.heap.size w w' := by
  have Ha := hid aliveO_any
  have hl4 := (lightO_true hl).1
  have hm4 := (lightO_true hm).1
  have HL := lightHid hv hln hsz hl
  have HM := lightHid hu hmn hsm hm
  have HF1 := hid (fun W (h : Kept (fun _ => False) w W) => findOpt_any v l kind W (hv.kept0 h) (by omega) hsz)
  have HF2 := hid (fun W (h : Kept (fun _ => False) w W) => findOpt_any u m kind W (hu.kept0 h) (by omega) hsm)
  have HF3 := hid (fun W x k (h : OwnO W k x (l ++ m)) => findOpt_any x (l ++ m) kind W h.tags (by rw [List.length_append]; omega) (fun y hy => (List.mem_append.1 hy).elim (hsz y) (hsm y)))
  have HS1 : Hid (∀ W, Kept (fun _ => False) w W → Calls Try.prog 13 #[v, v] W fun e w' => e = .returned (.bool true) ∧ Kept (fun _ => False) W w') := fun W h => by
    have := sameO_any v v l l W (hv.kept0 h) (hv.kept0 h) (by omega)
    rw [sameF_self] at this
    exact this
  have HS2 := hid (fun W (h : Kept (fun _ => False) w W) => sameO_any v u l m W (hv.kept0 h) (hu.kept0 h) (by omega))
  have HS3 := hid (fun W (h : Kept (fun _ => False) w W) => sameO_any u v m l W (hu.kept0 h) (hv.kept0 h) (by omega))
  rw [sameF_comm m l] at HS3
  have HA1 := hid (fun W (h : Kept (fun _ => False) w W) => appendO_run h (OwnO.nil W w.heap.size) (hv.kept0 h) (by simp; omega))
  have HA2 := hid (fun W x (h : Kept (fun _ => False) w W) (ho : OwnO W w.heap.size x l) => appendO_run h ho (hu.kept0 h) (by omega))
  obtain ⟨p, cap, rfl⟩ := hv.slice
  obtain ⟨q, cbp, rfl⟩ := hu.slice
  rw [findOB_append, findO_append_some] at HF3
  generalize findOB l kind = A at *
  generalize findOB m kind = B at *
  generalize (findO l kind).isSome = x at *
  generalize (findO m kind).isSome = y at *
  generalize sameF l m = S at *
  obtain ⟨Z, hZ⟩ : ∃ Z, (if x = true then A else B) = Z := ⟨_, rfl⟩
  rw [hZ] at HF3
  have HZ := hid hZ
  clear hv hu hsz hsm hln hmn hl hm hZ
  go_enter Try.func5, Try.ntmps5
  go_wp2_with fail
  refine (HL.out _ (Kept.refl _ _)).mono ?_
  rintro e1 w1 ⟨rfl, hk1⟩
  have K1 := hid hk1
  clear hk1 HL
  go_wp2_with fail
  refine (HM.out _ K1.out).mono ?_
  rintro e2 w2 ⟨rfl, hk2⟩
  have K2 := hid (K1.out.trans hk2)
  clear hk2 HM K1
  go_wp2_with fail
  refine (HF1.out _ K2.out).mono ?_
  rintro e3 w3 ⟨rfl, hk3⟩
  have K3 := hid (K2.out.trans hk3)
  clear hk3 HF1 K2
  go_wp2_with fail
  refine (HF2.out _ K3.out).mono ?_
  rintro e4 w4 ⟨rfl, hk4⟩
  have K4 := hid (K3.out.trans hk4)
  clear hk4 HF2 K3
  obtain ⟨v5, w5, hr5, ho5, hk5⟩ := HA1.out w4 K4.out
  rw [List.nil_append] at ho5
  obtain ⟨v6, w6, hr6, ho6, hk6⟩ := HA2.out w5 v5 hk5 ho5
  have K6 := hid hk6
  have O6 := hid ho6
  clear ho5 ho6 hk5 hk6 HA1 HA2
  go_wp2_with (first | (at_builtin; refine Lib.wpList_append_run _ rfl _ _ _ _ rfl _ _ rfl rfl _ _ (hr5 _) ?_) | (at_builtin; refine Lib.wpList_append_run _ rfl _ _ _ _ rfl _ _ rfl rfl _ _ (hr6 _) ?_) | fail)
  refine (HF3.out _ _ _ O6.out).mono ?_
  rintro e7 w7 ⟨rfl, hk7⟩
  have K7 := hid (K6.out.trans hk7)
  clear hk7 HF3 K6 O6 hr5 hr6
  go_upto_if 46 with fail
  go_cut [13] (fun v13 wx => v13 = .string Z ∧ wx = w7)
  case first =>
    cases x with
    | false =>
      have hZ : B = Z := by simpa using HZ.out
      clear HZ
      go_wp2
      go_meet
      exact ⟨by rw [hZ], rfl⟩
    | true =>
      have hZ : A = Z := by simpa using HZ.out
      clear HZ
      go_wp2
      go_meet
      exact ⟨by rw [hZ], rfl⟩
  case rest =>
    obtain ⟨rfl, rfl⟩ := hcut
    clear HZ
    go_wp2_with fail
    refine (Ha.out _).mono ?_
    rintro e8 w8 ⟨rfl, hk8⟩
    have K8 := hid (K7.out.trans hk8)
    clear hk8 K7
    cases x <;> cases y
    all_goals
      go_wp2_with fail
      refine (HS1.out _ K8.out).mono ?_
      rintro e9 w9 ⟨rfl, hk9⟩
      have K9 := hid (K8.out.trans hk9)
      clear hk9 K8
      go_wp2_with fail
      refine (HS2.out _ K9.out).mono ?_
      rintro e10 w10 ⟨rfl, hk10⟩
      have K10 := hid (K9.out.trans hk10)
      clear hk10 K9
      go_wp2_with fail
      refine (HS3.out _ K10.out).mono ?_
      rintro e11 w11 ⟨rfl, hk11⟩
      have K11 := hid (K10.out.trans hk11)
      clear hk11 K10
      go_wp2
      go_ret
      exact ⟨rfl, below_of K11.out⟩

theorem optsFinds_walk (v : Value) (l : List Tg) (u : Value) (m : List Tg) (kind : Int) (w : World) (hv : TagsAt w v l) (hln : l.length ≤ maxLen) (hsz : ∀ x ∈ l, x.value.size ≤ 140737488351232) (hu : TagsAt w u m) (hmn : m.length ≤ maxLen) (hsm : ∀ x ∈ m, x.value.size ≤ 140737488351232) (_ : -9223372036854775808 ≤ kind ∧ kind ≤ 9223372036854775807) :
    Calls Try.prog 5 #[v, u, .int .i64 kind] w fun e w' => e = .returned (.bool true) ∧ Below w.heap.size w w' := by
  cases h : lightO l with
  | false => exact optsFinds_not v l u m kind w hv hln hsz hu hmn hsm (Or.inl h)
  | true =>
    cases h2 : lightO m with
    | false => exact optsFinds_not v l u m kind w hv hln hsz hu hmn hsm (Or.inr ⟨h, h2⟩)
    | true => exact optsFinds_in v l u m kind w hv hln hsz hu hmn hsm h h2
end Go.Proofs.Ytdifdcceigoedaa
