/- The walk of the law AvpBack. -/
import Derived.Test.YtnghakhgogfemaaDoorAvApp
import Derived.Test.YtnghakhgogfemaaDoorAvBackP
namespace Go.Proofs.YtnghakhgogfemaaDoor
open Go.RowKit

/-- What a cut of the bytes is told as. -/
theorem tail_ok {l : List Av} {R : List Av × Int} (h : R = ([], 5) ∨ ∃ k, k ≤ l.length ∧ R = (l.take k, 0)) : (R.2 = 5 ∧ R.1 = []) ∨ (R.2 = 0 ∧ R.1.length ≤ l.length ∧ R.1 = l.take R.1.length) := by
  rcases h with h | ⟨k, hk, h⟩
  · exact Or.inl ⟨by rw [h], by rw [h]⟩
  · right
    rw [h]
    refine ⟨rfl, by rw [List.length_take]; omega, ?_⟩
    simp only
    rw [List.length_take, Nat.min_eq_left hk]

set_option maxHeartbeats 8000000 in
set_option maxRecDepth 100000 in
theorem avpBack_not (u : Value) (l : List Av) (s : ByteArray) (c : Int) (w : World) (hI : AvsIn w u l) (hs : s.size ≤ 140737488351232) (h : lightA l = false ∨ (lightA l = true ∧ (300 < s.size ∨ (¬ 300 < s.size ∧ c < 0)))) :
    Calls Tryd.prog 3 #[u, .string s, .int .i64 c] w fun e w' => e = .returned (.bool true) ∧ Kept (fun _ => False) w w' := by
  have HA := hid aliveA_any
  have HL := hid (lightA_any u l w hI.at_ hI.len hI.size)
  obtain ⟨p, cap, rfl⟩ := RowsAt.slice hI.at_
  clear hI
  rcases h with h | ⟨h, h3 | ⟨h3, hc⟩⟩
  · rw [h] at HL
    clear h
    go_enter Tryd.func3, Tryd.ntmps3
    go_wp2_with fail
    refine HL.out.mono ?_
    rintro e w0 ⟨rfl, hk0⟩
    have HK0 := hid hk0
    clear hk0
    go_wp2_with fail
    refine (HA.out _).mono ?_
    rintro e w1 ⟨rfl, hk1⟩
    have HK1 := hid (HK0.out.trans hk1)
    clear hk1
    go_wp2
    go_ret
    exact ⟨rfl, HK1.out⟩
  · rw [h] at HL
    have h3z : (300 : Int) < (s.size : Int) := by omega
    clear h
    go_enter Tryd.func3, Tryd.ntmps3
    go_wp2_with fail
    refine HL.out.mono ?_
    rintro e w0 ⟨rfl, hk0⟩
    have HK0 := hid hk0
    clear hk0
    go_wp2_with fail
    refine (HA.out _).mono ?_
    rintro e w1 ⟨rfl, hk1⟩
    have HK1 := hid (HK0.out.trans hk1)
    clear hk1
    go_wp2
    go_ret
    exact ⟨rfl, HK1.out⟩
  · rw [h] at HL
    have h3z : ¬ (300 : Int) < (s.size : Int) := by omega
    clear h
    go_enter Tryd.func3, Tryd.ntmps3
    go_wp2_with fail
    refine HL.out.mono ?_
    rintro e w0 ⟨rfl, hk0⟩
    have HK0 := hid hk0
    clear hk0
    go_wp2_with fail
    refine (HA.out _).mono ?_
    rintro e w1 ⟨rfl, hk1⟩
    have HK1 := hid (HK0.out.trans hk1)
    clear hk1
    go_wp2
    go_ret
    exact ⟨rfl, HK1.out⟩

set_option maxHeartbeats 8000000 in
set_option maxRecDepth 100000 in
theorem avpBack_in (u : Value) (l : List Av) (s : ByteArray) (c : Nat) (w : World) (hI : AvsIn w u l) (hl : lightA l = true) (hs : s.size ≤ 300) (hT : Tables w) :
    Calls Tryd.prog 3 #[u, .string s, .int .i64 (c : Int)] w fun e w' => e = .returned (.bool true) ∧ Kept (fun _ => False) w w' := by
  have HA := hid aliveA_any
  have HL := hid (lightA_any u l w hI.at_ hI.len hI.size)
  rw [hl] at HL
  have hlen := (lightA_true hl).1
  have HM := hid (maskAt_of hT)
  have HU := hid (unmAt_of hT)
  have HI := hid hI
  have HP : Hid (∀ W, Kept (fun _ => False) w W → Calls Tryd.prog 9 #[u, .string s] W fun e w' => e = .returned (.tuple #[.string (putAF l s).1, .int .i64 (putAF l s).2]) ∧ Kept (fun _ => False) W w') := fun W hk => by
    by_cases h : 40 < l.length
    · exact putA_many u l s W (HI.out.kept hk).at_ h
    · exact putA_few u l s W (HI.out.kept hk).at_ (by omega) (by omega) HI.out.size (fun _ _ => HM.out.kept hk)
  have h3z : ¬ (300 : Int) < (s.size : Int) := by omega
  have hc0 : ¬ (c : Int) < 0 := by omega
  obtain ⟨p, cap, hu⟩ := RowsAt.slice hI.at_
  clear hI hl hT
  by_cases he : (putAF l s).2 = 0
  · have hb := back_all he
    have hcut := fun m h => tail_ok (back_cut he m h)
    have hsz : (putAF l s).1.size ≤ 1488 := (putAF_ok he).2.2.2
    rw [he] at HP
    obtain ⟨X, hX⟩ : ∃ X, X = (putAF l s).1 := ⟨_, rfl⟩
    rw [← hX] at HP hb hcut hsz
    have HG := hid (fun W (hk : Kept (fun _ => False) w W) => getA_any X s (by omega) (by omega) W (fun _ => HU.out.kept hk))
    rw [hb] at HG
    have HS := hid (fun W v (h : AvsAt W v l) (h2 : AvsAt W u l) => sameAv_any v u l l W h h2 (by omega) HI.out.good HI.out.good)
    rw [sameL_self] at HS
    have hlne : ¬ X.size ≤ c → l ≠ [] := fun h e => by
      subst e
      rw [hX] at h
      exact h (Nat.zero_le _)
    clear he hb hX
    by_cases hc : X.size ≤ c
    · have hcz : (X.size : Int) ≤ (c : Int) := by omega
      subst hu
      clear hcut hlne
      go_enter Tryd.func3, Tryd.ntmps3
      go_wp2_with fail
      refine HL.out.mono ?_
      rintro e w0 ⟨rfl, hk0⟩
      have HK0 := hid hk0
      clear hk0
      go_wp2_with fail
      refine (HP.out _ HK0.out).mono ?_
      rintro e w1 ⟨rfl, hk1⟩
      have HK1 := hid (HK0.out.trans hk1)
      clear hk1
      go_wp2_with fail
      refine (HG.out _ HK1.out).mono ?_
      rintro e w2 ⟨v2, rfl, ho2, hk2⟩
      have HK2 := hid (HK1.out.trans hk2)
      have HO2 := hid (OwnAv.at ho2)
      obtain ⟨p2, c2, hv2⟩ := slice_of ho2
      subst hv2
      clear hk2 ho2
      go_wp2_with fail
      refine (HS.out _ _ HO2.out (HI.out.kept HK2.out).at_).mono ?_
      rintro e w3 ⟨rfl, hk3⟩
      have HK3 := hid (HK2.out.trans hk3)
      clear hk3
      go_wp2_with fail
      refine (HA.out _).mono ?_
      rintro e w4 ⟨rfl, hk4⟩
      have HK4 := hid (HK3.out.trans hk4)
      clear hk4
      go_wp2
      go_ret
      exact ⟨rfl, HK4.out⟩
    · have hcz : ¬ (X.size : Int) ≤ (c : Int) := by omega
      have hlne := hlne hc
      obtain ⟨R, hR⟩ : ∃ R, R = getAF (X.extract 0 c) s := ⟨_, rfl⟩
      have hR2 := hcut c (by omega)
      have HG2 := hid (fun W (hk : Kept (fun _ => False) w W) => getA_any (X.extract 0 c) s (by rw [ByteArray.size_extract]; omega) (by omega) W (fun _ => HU.out.kept hk))
      rw [← hR] at hR2 HG2
      have jS := first_at X c (by omega) (c : Int) rfl
      obtain ⟨Y, hY⟩ : ∃ Y, Y = X.extract 0 c := ⟨_, rfl⟩
      rw [← hY] at jS HG2
      obtain ⟨g, o, rfl, hcap⟩ : ∃ g o, p = some ⟨g, o, none⟩ ∧ l.length ≤ cap := by
        rcases HI.out.at_ with ⟨h, _⟩ | ⟨g, o, cp, e, h1, _⟩
        · exact absurd h hlne
        · rw [hu] at e
          simp only [Value.slice.injEq] at e
          obtain ⟨rfl, _, rfl⟩ := e
          exact ⟨g, o, rfl, h1⟩
      subst hu
      clear hcut hR hY
      obtain ⟨T, E⟩ := R
      simp only at hR2 HG2
      rcases hR2 with ⟨rfl, rfl⟩ | ⟨rfl, hTl, hTe⟩
      · go_enter Tryd.func3, Tryd.ntmps3
        go_wp2_with fail
        refine HL.out.mono ?_
        rintro e w0 ⟨rfl, hk0⟩
        have HK0 := hid hk0
        clear hk0
        go_wp2_with fail
        refine (HP.out _ HK0.out).mono ?_
        rintro e w1 ⟨rfl, hk1⟩
        have HK1 := hid (HK0.out.trans hk1)
        clear hk1
        go_wp2_with fail
        refine (HG.out _ HK1.out).mono ?_
        rintro e w2 ⟨v2, rfl, ho2, hk2⟩
        have HK2 := hid (HK1.out.trans hk2)
        have HO2 := hid (OwnAv.at ho2)
        obtain ⟨p2, c2, hv2⟩ := slice_of ho2
        subst hv2
        clear hk2 ho2
        go_wp2_with fail
        refine (HS.out _ _ HO2.out (HI.out.kept HK2.out).at_).mono ?_
        rintro e w3 ⟨rfl, hk3⟩
        have HK3 := hid (HK2.out.trans hk3)
        clear hk3
        go_wp2_with fail
        refine (HG2.out _ HK3.out).mono ?_
        rintro e w4 ⟨v4, rfl, ho4, hk4⟩
        have HK4 := hid (HK3.out.trans hk4)
        obtain ⟨p4, c4, hv4⟩ := slice_of ho4
        subst hv4
        clear hk4 ho4
        go_wp2_with fail
        refine (HA.out _).mono ?_
        rintro e w5 ⟨rfl, hk5⟩
        have HK5 := hid (HK4.out.trans hk5)
        clear hk5
        go_wp2
        go_ret
        exact ⟨rfl, HK5.out⟩
      · have HS2 := hid (fun W v q (h : AvsAt W v T) (h2 : AvsAt W q (l.take T.length)) => sameAv_any v q T (l.take T.length) W h h2 (by omega) (by rw [hTe]; exact fun x hx => HI.out.good x (List.mem_of_mem_take hx)) (fun x hx => HI.out.good x (List.mem_of_mem_take hx)))
        rw [← hTe, sameL_self] at HS2
        have HTe := hid hTe
        clear hTe
        go_enter Tryd.func3, Tryd.ntmps3
        go_wp2_with fail
        refine HL.out.mono ?_
        rintro e w0 ⟨rfl, hk0⟩
        have HK0 := hid hk0
        clear hk0
        go_wp2_with fail
        refine (HP.out _ HK0.out).mono ?_
        rintro e w1 ⟨rfl, hk1⟩
        have HK1 := hid (HK0.out.trans hk1)
        clear hk1
        go_wp2_with fail
        refine (HG.out _ HK1.out).mono ?_
        rintro e w2 ⟨v2, rfl, ho2, hk2⟩
        have HK2 := hid (HK1.out.trans hk2)
        have HO2 := hid (OwnAv.at ho2)
        obtain ⟨p2, c2, hv2⟩ := slice_of ho2
        subst hv2
        clear hk2 ho2
        go_wp2_with fail
        refine (HS.out _ _ HO2.out (HI.out.kept HK2.out).at_).mono ?_
        rintro e w3 ⟨rfl, hk3⟩
        have HK3 := hid (HK2.out.trans hk3)
        clear hk3
        go_wp2_with fail
        refine (HG2.out _ HK3.out).mono ?_
        rintro e w4 ⟨v4, rfl, ho4, hk4⟩
        have HK4 := hid (HK3.out.trans hk4)
        have HO4 := hid (OwnAv.at ho4)
        obtain ⟨p4, c4, hv4⟩ := slice_of ho4
        subst hv4
        clear hk4 ho4
        go_wp2_with fail
        refine (HA.out _).mono ?_
        rintro e w5 ⟨rfl, hk5⟩
        have HK5 := hid (HK4.out.trans hk5)
        have HO5 := hid (RowsAt.kept0 HO4.out hk5)
        clear hk5
        have hTz : (T.length : Int) ≤ (cap : Int) := by omega
        have hT0 : ¬ (T.length : Int) < 0 := by omega
        have hTl' : (T.length : Int) ≤ (l.length : Int) := by omega
        have hLast := AvsAt.take (HI.out.kept HK5.out).at_ hTl
        rw [← HTe.out] at hLast
        have HLast := hid hLast
        clear hLast
        go_wp2_with fail
        refine (HS2.out _ _ _ HO5.out HLast.out).mono ?_
        rintro e w6 ⟨rfl, hk6⟩
        have HK6 := hid (HK5.out.trans hk6)
        clear hk6
        go_wp2
        go_ret
        exact ⟨rfl, HK6.out⟩
  · have hne : ((putAF l s).2 != 0) = true := by rw [bne_iff_ne]; exact he
    have hx := putAF_err he
    rw [hx] at HP
    generalize (putAF l s).2 = L at *
    subst hu
    clear he hx
    go_enter Tryd.func3, Tryd.ntmps3
    go_wp2_with fail
    refine HL.out.mono ?_
    rintro e w0 ⟨rfl, hk0⟩
    have HK0 := hid hk0
    clear hk0
    go_wp2_with fail
    refine (HP.out _ HK0.out).mono ?_
    rintro e w1 ⟨rfl, hk1⟩
    have HK1 := hid (HK0.out.trans hk1)
    clear hk1
    go_wp2_with fail
    refine (HA.out _).mono ?_
    rintro e w2 ⟨rfl, hk2⟩
    have HK2 := hid (HK1.out.trans hk2)
    clear hk2
    go_wp2
    go_ret
    exact ⟨rfl, HK2.out⟩

theorem avpBack_walk (u : Value) (l : List Av) (s : ByteArray) (c : Int) (w : World) (hI : AvsIn w u l) (hs : s.size ≤ 140737488351232) (_hc : -9223372036854775808 ≤ c ∧ c ≤ 9223372036854775807) (hT : Tables w) :
    Calls Tryd.prog 3 #[u, .string s, .int .i64 c] w fun e w' => e = .returned (.bool true) ∧ Below w.heap.size w w' := by
  refine (?_ : Calls Tryd.prog 3 #[u, .string s, .int .i64 c] w fun e w' => e = .returned (.bool true) ∧ Kept (fun _ => False) w w').mono fun _ _ ⟨h1, h2⟩ => ⟨h1, below_of h2⟩
  cases hl : lightA l with
  | false => exact avpBack_not u l s c w hI hs (Or.inl hl)
  | true =>
    by_cases h3 : 300 < s.size
    · exact avpBack_not u l s c w hI hs (Or.inr ⟨hl, Or.inl h3⟩)
    · by_cases h0 : c < 0
      · exact avpBack_not u l s c w hI hs (Or.inr ⟨hl, Or.inr ⟨h3, h0⟩⟩)
      · obtain ⟨k, rfl⟩ := Int.eq_ofNat_of_zero_le (show 0 ≤ c by omega)
        exact avpBack_in u l s k w hI hl (by omega) hT
end Go.Proofs.YtnghakhgogfemaaDoor
