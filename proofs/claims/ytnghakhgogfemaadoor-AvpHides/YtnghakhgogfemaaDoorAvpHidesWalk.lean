/- The walk of the law AvpHides. (Written by gen_hides.py.) -/
import Derived.Test.YtnghakhgogfemaaDoorAvApp
import Derived.Test.YtnghakhgogfemaaDoorAvHidesP
namespace Go.Proofs.YtnghakhgogfemaaDoor
open Go.RowKit

set_option maxHeartbeats 8000000 in
set_option maxRecDepth 100000 in
theorem avpHides_not (kind : Int) (value vector secret other : ByteArray) (w : World) (h1 : value.size ≤ 140737488351232) (h2 : vector.size ≤ 140737488351232) (h3 : secret.size ≤ 140737488351232) (h4 : other.size ≤ 140737488351232)
    (h : 200 < value.size ∨ 200 < vector.size ∨ 200 < secret.size ∨ 200 < other.size ∨ secret.size = 0 ∨ kind < 0 ∨ 65535 < kind ∨ kind = 36) :
    Calls Tryd.prog 4 #[.int .i64 kind, .string value, .string vector, .string secret, .string other] w fun e w' => e = .returned (.bool true) ∧ Kept (fun _ => False) w w' := by
  have HA := hid aliveA_any
  by_cases ghz1 : 200 < value.size
  · have hz1 : (200 : Int) < (value.size : Int) := by omega
    clear h ghz1
    go_enter Tryd.func4, Tryd.ntmps4
    go_wp2_with fail
    refine (HA.out _).mono ?_
    rintro e w1 ⟨rfl, hk1⟩
    go_wp2
    go_ret
    exact ⟨rfl, hk1⟩
  have hz1 : ¬ (200 : Int) < (value.size : Int) := by omega
  by_cases ghz2 : 200 < vector.size
  · have hz2 : (200 : Int) < (vector.size : Int) := by omega
    clear h ghz2
    go_enter Tryd.func4, Tryd.ntmps4
    go_wp2_with fail
    refine (HA.out _).mono ?_
    rintro e w1 ⟨rfl, hk1⟩
    go_wp2
    go_ret
    exact ⟨rfl, hk1⟩
  have hz2 : ¬ (200 : Int) < (vector.size : Int) := by omega
  by_cases ghz3 : 200 < secret.size
  · have hz3 : (200 : Int) < (secret.size : Int) := by omega
    clear h ghz3
    go_enter Tryd.func4, Tryd.ntmps4
    go_wp2_with fail
    refine (HA.out _).mono ?_
    rintro e w1 ⟨rfl, hk1⟩
    go_wp2
    go_ret
    exact ⟨rfl, hk1⟩
  have hz3 : ¬ (200 : Int) < (secret.size : Int) := by omega
  by_cases ghz4 : 200 < other.size
  · have hz4 : (200 : Int) < (other.size : Int) := by omega
    clear h ghz4
    go_enter Tryd.func4, Tryd.ntmps4
    go_wp2_with fail
    refine (HA.out _).mono ?_
    rintro e w1 ⟨rfl, hk1⟩
    go_wp2
    go_ret
    exact ⟨rfl, hk1⟩
  have hz4 : ¬ (200 : Int) < (other.size : Int) := by omega
  by_cases g0 : secret.size = 0
  · obtain rfl := str_nil secret g0
    clear h g0
    go_enter Tryd.func4, Tryd.ntmps4
    go_wp2_with fail
    refine (HA.out _).mono ?_
    rintro e w1 ⟨rfl, hk1⟩
    go_wp2
    go_ret
    exact ⟨rfl, hk1⟩
  have hne := str_full g0
  by_cases g5 : kind < 0
  · clear h
    go_enter Tryd.func4, Tryd.ntmps4
    go_wp2_with fail
    refine (HA.out _).mono ?_
    rintro e w1 ⟨rfl, hk1⟩
    go_wp2
    go_ret
    exact ⟨rfl, hk1⟩
  by_cases g6 : 65535 < kind
  · clear h
    go_enter Tryd.func4, Tryd.ntmps4
    go_wp2_with fail
    refine (HA.out _).mono ?_
    rintro e w1 ⟨rfl, hk1⟩
    go_wp2
    go_ret
    exact ⟨rfl, hk1⟩
  have g7 : kind = 36 := by omega
  subst g7
  clear h
  go_enter Tryd.func4, Tryd.ntmps4
  go_wp2_with fail
  refine (HA.out _).mono ?_
  rintro e w1 ⟨rfl, hk1⟩
  go_wp2
  go_ret
  exact ⟨rfl, hk1⟩

set_option maxHeartbeats 16000000 in
set_option maxRecDepth 100000 in
theorem avpHides_in (kind : Int) (value vector secret other : ByteArray) (w : World) (h1 : value.size ≤ 200) (h2 : vector.size ≤ 200) (h3 : secret.size ≤ 200) (h4 : other.size ≤ 200) (h0 : secret.size ≠ 0) (hk : 0 ≤ kind ∧ kind ≤ 65535) (h36 : kind ≠ 36) (hT : Tables w) :
    Calls Tryd.prog 4 #[.int .i64 kind, .string value, .string vector, .string secret, .string other] w fun e w' => e = .returned (.bool true) ∧ Kept (fun _ => False) w w' := by
  have HA := hid aliveA_any
  have HM := hid (maskAt_of hT)
  have HU := hid (unmAt_of hT)
  have gd : ∀ x : ByteArray, x.size ≤ 200 → GoodA (vecA x) := fun x hx => ⟨⟨by show (-9223372036854775808 : Int) ≤ 0; decide, by show (0 : Int) ≤ 9223372036854775807; decide⟩, ⟨by show (-9223372036854775808 : Int) ≤ 36; decide, by show (36 : Int) ≤ 9223372036854775807; decide⟩, by show x.size ≤ maxLen; unfold maxLen; omega⟩
  have gh : ∀ x : ByteArray, x.size ≤ 200 → GoodA (hidA kind x) := fun x hx => ⟨⟨by show (-9223372036854775808 : Int) ≤ 0; decide, by show (0 : Int) ≤ 9223372036854775807; decide⟩, ⟨by show (-9223372036854775808 : Int) ≤ kind; omega, by show kind ≤ 9223372036854775807; omega⟩, by show x.size ≤ maxLen; unfold maxLen; omega⟩
  have sz : ∀ a b : Av, a.value.size ≤ 200 → b.value.size ≤ 200 → ∀ x ∈ [a, b], x.value.size ≤ 140737488351232 := fun a b ha hb x hx => by
    simp at hx
    rcases hx with rfl | rfl <;> omega
  have HP1 := hid (fun W (hk : Kept (fun _ => False) w W) v (h : AvsAt W v [vecA vector, hidA kind value]) => putA_few v [vecA vector, hidA kind value] secret W h (by simp) (by omega) (sz _ _ h2 h1) (fun _ _ => HM.out.kept hk))
  have HP2 := hid (fun W (hk : Kept (fun _ => False) w W) v (h : AvsAt W v [vecA vector, hidA kind value]) => putA_few v [vecA vector, hidA kind value] ⟨#[]⟩ W h (by simp) (by decide) (sz _ _ h2 h1) (fun _ _ => HM.out.kept hk))
  have HP3 := hid (fun W (hk : Kept (fun _ => False) w W) v (h : AvsAt W v [hidA kind value, vecA vector]) => putA_few v [hidA kind value, vecA vector] secret W h (by simp) (by omega) (sz _ _ h1 h2) (fun _ _ => HM.out.kept hk))
  have eok : (putAF [vecA vector, hidA kind value] secret).2 = 0 := by rw [hides_ok hk h1 h2 h0]
  have hback := back_all eok
  rw [hides_ok hk h1 h2 h0] at HP1 hback
  rw [hides_30 hk h1 h2] at HP2
  rw [hides_40 hk h1 h0] at HP3
  have hMs : (maskA false kind secret vector (two value.size ++ value)).size = 2 + value.size := by rw [maskA_size, ByteArray.size_append, two_size]
  obtain ⟨M, hM⟩ : ∃ M, M = maskA false kind secret vector (two value.size ++ value) := ⟨_, rfl⟩
  rw [← hM] at HP1 hback hMs
  have hBs := both_size (kind := kind) (vector := vector) M
  have hG2 := hides_get (kind := kind) (vector := vector) (M := M) other hk (by omega) h2
  have hG0 := hides_get30 (kind := kind) (vector := vector) (M := M) hk (by omega) h2
  have hAg := fun hs h => hides_again (kind := kind) (vector := vector) (M := M) (s := other) hk (by omega) h2 hs h
  simp only at hback
  obtain ⟨X, hX⟩ : ∃ X, X = bothA kind vector M := ⟨_, rfl⟩
  rw [← hX] at HP1 hback hBs hG2 hG0 hAg
  have HG0 := hid (fun W (hk : Kept (fun _ => False) w W) => getA_any X ⟨#[]⟩ (by omega) (by decide) W (fun _ => HU.out.kept hk))
  have HG := hid (fun W (hk : Kept (fun _ => False) w W) => getA_any X other (by omega) (by omega) W (fun _ => HU.out.kept hk))
  rw [hG0] at HG0
  rw [hG2] at HG
  have HBack := hid hback
  have HG2 := hid hG2
  have hXs : (X.size : Int) = 14 + (vector.size : Int) + (value.size : Int) := by omega
  clear hG2 hG0 hM hX hBs hMs eok hback
  have hz1 : ¬ (200 : Int) < (value.size : Int) := by omega
  have hz2 : ¬ (200 : Int) < (vector.size : Int) := by omega
  have hz3 : ¬ (200 : Int) < (secret.size : Int) := by omega
  have hz4 : ¬ (200 : Int) < (other.size : Int) := by omega
  have hne := str_full h0
  have g5 : ¬ kind < 0 := by omega
  have g6 : ¬ 65535 < kind := by omega
  have g7 : (kind == 36) = false := by rw [beq_eq_false_iff_ne]; exact h36
  have hsum : IntKind.i64.wrap (14 + (vector.size : Int)) = 14 + (vector.size : Int) := by rw [IntKind.wrap_i64]; omega
  have HB1 : Hid (AvAt ((w.alloc (.cells #[.bool true, .bool false, .int .i64 0, .int .i64 36, .string vector] 33)).alloc (.cells #[.bool true, .bool true, .int .i64 0, .int .i64 kind, .string value] 33)) w.heap.size (vecA vector)) := (AvAt.new w (vecA vector)).kept0 ((Kept.refl _ _).alloc _)
  have hs0 : (w.alloc (.cells #[.bool true, .bool false, .int .i64 0, .int .i64 36, .string vector] 33)).heap.size = w.heap.size + 1 := by simp
  have hB2 : AvAt ((w.alloc (.cells #[.bool true, .bool false, .int .i64 0, .int .i64 36, .string vector] 33)).alloc (.cells #[.bool true, .bool true, .int .i64 0, .int .i64 kind, .string value] 33)) (w.alloc (.cells #[.bool true, .bool false, .int .i64 0, .int .i64 36, .string vector] 33)).heap.size (hidA kind value) := AvAt.new (w.alloc (.cells #[.bool true, .bool false, .int .i64 0, .int .i64 36, .string vector] 33)) (hidA kind value)
  rw [hs0] at hB2
  have HB2 := hid hB2
  have HK0 := hid (((Kept.refl (fun _ => False) w).alloc (.cells #[.bool true, .bool false, .int .i64 0, .int .i64 36, .string vector] 33)).alloc (.cells #[.bool true, .bool true, .int .i64 0, .int .i64 kind, .string value] 33))
  clear hs0 hB2
  have h123 : True := trivial
  generalize hE : (showF (covA other vector) kind M) = R at *
  obtain ⟨Y, E⟩ := R
  simp only at HG HG2 hAg
  -- what is told by the other secret
  by_cases hO : other.size = 0
  · obtain rfl := str_nil other hO
    have hE0 : E = 30 := by
      have e : showF (covA ⟨#[]⟩ vector) kind M = (⟨#[]⟩, 30) := rfl
      rw [e] at hE
      exact (congrArg Prod.snd hE).symm
    subst hE0
    rw [if_neg (by decide)] at HG
    clear hE hAg hO
    clear gd gh sz h123
    go_enter Tryd.func4, Tryd.ntmps4
    go_upto_region 5 with fail
    generalize (w.alloc (.cells #[.bool true, .bool false, .int .i64 0, .int .i64 36, .string vector] 33)).alloc (.cells #[.bool true, .bool true, .int .i64 0, .int .i64 kind, .string value] 33) = W0 at *
    have HW0 := hid (Kept.refl (fun _ => False) W0)
    obtain ⟨a0, a1, a2, a3, a4⟩ := (HB1.out.kept0 HW0.out).cells
    obtain ⟨b0, b1, b2, b3, b4⟩ := (HB2.out.kept0 HW0.out).cells
    unfold vecA at a0 a1 a2 a3 a4
    unfold hidA at b0 b1 b2 b3 b4
    simp only at a0 a1 a2 a3 a4 b0 b1 b2 b3 b4
    have HR1 := hid (OwnAv.at (own_two_av W0 (vecA vector) (hidA kind value) W0.heap.size (Nat.le_refl _)))
    have HQ1 := hid ((Kept.refl (fun _ => False) W0).alloc (.cells #[.bool true, .bool false, .int .i64 0, .int .i64 36, .string vector, .bool true, .bool true, .int .i64 0, .int .i64 kind, .string value] 33))
    go_wp2_with fail
    refine (HP1.out _ (HK0.out.trans HQ1.out) _ HR1.out).mono ?_
    rintro e w1 ⟨rfl, hk1⟩
    have HW1 := hid (HQ1.out.trans hk1)
    clear hk1 HR1
    clear a0 a1 a2 a3 a4 b0 b1 b2 b3 b4
    obtain ⟨a0, a1, a2, a3, a4⟩ := (HB1.out.kept0 HW1.out).cells
    obtain ⟨b0, b1, b2, b3, b4⟩ := (HB2.out.kept0 HW1.out).cells
    unfold vecA at a0 a1 a2 a3 a4
    unfold hidA at b0 b1 b2 b3 b4
    simp only at a0 a1 a2 a3 a4 b0 b1 b2 b3 b4
    have HR2 := hid (OwnAv.at (own_two_av w1 (vecA vector) (hidA kind value) w1.heap.size (Nat.le_refl _)))
    have HQ2 := hid ((Kept.refl (fun _ => False) w1).alloc (.cells #[.bool true, .bool false, .int .i64 0, .int .i64 36, .string vector, .bool true, .bool true, .int .i64 0, .int .i64 kind, .string value] 33))
    go_wp2_with fail
    refine (HP2.out _ (HK0.out.trans (HW1.out.trans HQ2.out)) _ HR2.out).mono ?_
    rintro e w2 ⟨rfl, hk2⟩
    have HW2 := hid (HW1.out.trans (HQ2.out.trans hk2))
    clear hk2 HR2 HW1
    clear a0 a1 a2 a3 a4 b0 b1 b2 b3 b4
    go_wp2_with fail
    refine (HG0.out _ (HK0.out.trans HW2.out)).mono ?_
    rintro e w3 ⟨v3, rfl, ho3, hk3⟩
    have HW3 := hid (HW2.out.trans hk3)
    clear hk3 ho3 HW2
    obtain ⟨a0, a1, a2, a3, a4⟩ := (HB1.out.kept0 HW3.out).cells
    obtain ⟨b0, b1, b2, b3, b4⟩ := (HB2.out.kept0 HW3.out).cells
    unfold vecA at a0 a1 a2 a3 a4
    unfold hidA at b0 b1 b2 b3 b4
    simp only at a0 a1 a2 a3 a4 b0 b1 b2 b3 b4
    have HR4 := hid (OwnAv.at (own_two_av w3 (hidA kind value) (vecA vector) w3.heap.size (Nat.le_refl _)))
    have HQ4 := hid ((Kept.refl (fun _ => False) w3).alloc (.cells #[.bool true, .bool true, .int .i64 0, .int .i64 kind, .string value, .bool true, .bool false, .int .i64 0, .int .i64 36, .string vector] 33))
    go_wp2_with fail
    refine (HP3.out _ (HK0.out.trans (HW3.out.trans HQ4.out)) _ HR4.out).mono ?_
    rintro e w4 ⟨rfl, hk4⟩
    have HW4 := hid (HW3.out.trans (HQ4.out.trans hk4))
    clear hk4 HR4 HW3
    clear a0 a1 a2 a3 a4 b0 b1 b2 b3 b4
    go_wp2_with fail
    refine (HG.out _ (HK0.out.trans HW4.out)).mono ?_
    rintro e w8 ⟨v8, rfl, ho8, hk8⟩
    have HKW := hid (HW4.out.trans hk8)
    have HK8 := hid (HK0.out.trans HKW.out)
    have HO8 := hid (OwnAv.at ho8)
    obtain ⟨p8, c8, hv8⟩ := slice_of ho8
    subst hv8
    clear hk8 ho8 HW4
    go_wp2_with fail
    refine (HA.out _).mono ?_
    rintro e w9 ⟨rfl, hk9⟩
    have HK9 := hid (HK8.out.trans hk9)
    clear hk9
    go_wp2
    go_ret
    exact ⟨rfl, HK9.out⟩
  · have hno := str_full hO
    by_cases hE0 : E = 0
    · subst hE0
      rw [if_pos rfl] at HG HG2
      obtain ⟨hag, hYs⟩ := hAg hO rfl
      have HP4 := hid (fun W (hk : Kept (fun _ => False) w W) v (h : AvsAt W v [vecA vector, hidA kind Y]) => putA_few v [vecA vector, hidA kind Y] other W h (by simp) (by omega) (sz _ _ h2 hYs) (fun _ _ => HM.out.kept hk))
      rw [hag] at HP4
      clear hE hag hAg
      by_cases hso : other = secret
      · subst hso
        have hY : [vecA vector, hidA kind Y] = [vecA vector, hidA kind value] := congrArg Prod.fst (HG2.out.symm.trans HBack.out)
        have hYv : value = Y := by
          have h := (List.cons.inj (List.cons.inj hY).2).1
          exact (congrArg Av.value h).symm
        subst hYv
        have hee : (other.toList == other.toList) = true := by simp
        have HS := hid (fun W v u (h : AvsAt W v [vecA vector, hidA kind value]) (h' : AvsAt W u [vecA vector, hidA kind value]) => sameAv_any v u _ _ W h h' (by simp) (fun x hx => by simp at hx; rcases hx with rfl | rfl; exact gd _ h2; exact gh _ h1) (fun x hx => by simp at hx; rcases hx with rfl | rfl; exact gd _ h2; exact gh _ h1))
        rw [sameL_self] at HS
        clear hY
        clear gd gh sz h123
        go_enter Tryd.func4, Tryd.ntmps4
        go_upto_region 5 with fail
        generalize (w.alloc (.cells #[.bool true, .bool false, .int .i64 0, .int .i64 36, .string vector] 33)).alloc (.cells #[.bool true, .bool true, .int .i64 0, .int .i64 kind, .string value] 33) = W0 at *
        have HW0 := hid (Kept.refl (fun _ => False) W0)
        obtain ⟨a0, a1, a2, a3, a4⟩ := (HB1.out.kept0 HW0.out).cells
        obtain ⟨b0, b1, b2, b3, b4⟩ := (HB2.out.kept0 HW0.out).cells
        unfold vecA at a0 a1 a2 a3 a4
        unfold hidA at b0 b1 b2 b3 b4
        simp only at a0 a1 a2 a3 a4 b0 b1 b2 b3 b4
        have HR1 := hid (OwnAv.at (own_two_av W0 (vecA vector) (hidA kind value) W0.heap.size (Nat.le_refl _)))
        have HQ1 := hid ((Kept.refl (fun _ => False) W0).alloc (.cells #[.bool true, .bool false, .int .i64 0, .int .i64 36, .string vector, .bool true, .bool true, .int .i64 0, .int .i64 kind, .string value] 33))
        go_wp2_with fail
        refine (HP1.out _ (HK0.out.trans HQ1.out) _ HR1.out).mono ?_
        rintro e w1 ⟨rfl, hk1⟩
        have HW1 := hid (HQ1.out.trans hk1)
        clear hk1 HR1
        clear a0 a1 a2 a3 a4 b0 b1 b2 b3 b4
        obtain ⟨a0, a1, a2, a3, a4⟩ := (HB1.out.kept0 HW1.out).cells
        obtain ⟨b0, b1, b2, b3, b4⟩ := (HB2.out.kept0 HW1.out).cells
        unfold vecA at a0 a1 a2 a3 a4
        unfold hidA at b0 b1 b2 b3 b4
        simp only at a0 a1 a2 a3 a4 b0 b1 b2 b3 b4
        have HR2 := hid (OwnAv.at (own_two_av w1 (vecA vector) (hidA kind value) w1.heap.size (Nat.le_refl _)))
        have HQ2 := hid ((Kept.refl (fun _ => False) w1).alloc (.cells #[.bool true, .bool false, .int .i64 0, .int .i64 36, .string vector, .bool true, .bool true, .int .i64 0, .int .i64 kind, .string value] 33))
        go_wp2_with fail
        refine (HP2.out _ (HK0.out.trans (HW1.out.trans HQ2.out)) _ HR2.out).mono ?_
        rintro e w2 ⟨rfl, hk2⟩
        have HW2 := hid (HW1.out.trans (HQ2.out.trans hk2))
        clear hk2 HR2 HW1
        clear a0 a1 a2 a3 a4 b0 b1 b2 b3 b4
        go_wp2_with fail
        refine (HG0.out _ (HK0.out.trans HW2.out)).mono ?_
        rintro e w3 ⟨v3, rfl, ho3, hk3⟩
        have HW3 := hid (HW2.out.trans hk3)
        clear hk3 ho3 HW2
        obtain ⟨a0, a1, a2, a3, a4⟩ := (HB1.out.kept0 HW3.out).cells
        obtain ⟨b0, b1, b2, b3, b4⟩ := (HB2.out.kept0 HW3.out).cells
        unfold vecA at a0 a1 a2 a3 a4
        unfold hidA at b0 b1 b2 b3 b4
        simp only at a0 a1 a2 a3 a4 b0 b1 b2 b3 b4
        have HR4 := hid (OwnAv.at (own_two_av w3 (hidA kind value) (vecA vector) w3.heap.size (Nat.le_refl _)))
        have HQ4 := hid ((Kept.refl (fun _ => False) w3).alloc (.cells #[.bool true, .bool true, .int .i64 0, .int .i64 kind, .string value, .bool true, .bool false, .int .i64 0, .int .i64 36, .string vector] 33))
        go_wp2_with fail
        refine (HP3.out _ (HK0.out.trans (HW3.out.trans HQ4.out)) _ HR4.out).mono ?_
        rintro e w4 ⟨rfl, hk4⟩
        have HW4 := hid (HW3.out.trans (HQ4.out.trans hk4))
        clear hk4 HR4 HW3
        clear a0 a1 a2 a3 a4 b0 b1 b2 b3 b4
        go_wp2_with fail
        refine (HG.out _ (HK0.out.trans HW4.out)).mono ?_
        rintro e w8 ⟨v8, rfl, ho8, hk8⟩
        have HKW := hid (HW4.out.trans hk8)
        have HK8 := hid (HK0.out.trans HKW.out)
        have HO8 := hid (OwnAv.at ho8)
        obtain ⟨p8, c8, hv8⟩ := slice_of ho8
        subst hv8
        clear hk8 ho8 HW4
        go_wp2_with fail
        refine (HP4.out _ HK8.out _ HO8.out).mono ?_
        rintro e w9 ⟨rfl, hk9⟩
        have HK9 := hid (HK8.out.trans hk9)
        have HO9 := hid (RowsAt.kept0 HO8.out hk9)
        have HKx := hid hk9
        clear hk9
        have HWx := hid (fun W (h : Kept (fun _ => False) w9 W) => HKW.out.trans (HKx.out.trans h))
        go_wp2_with fail
        refine (HA.out _).mono ?_
        rintro e w10 ⟨rfl, hk10⟩
        have HW10 := hid (HWx.out _ hk10)
        have HO10 := hid (RowsAt.kept0 HO9.out hk10)
        have HK10 := hid (HK9.out.trans hk10)
        clear hk10 HWx
        have hR := OwnAv.at (own_two_av w10 (vecA vector) (hidA kind value) w10.heap.size (Nat.le_refl _))
        have HR := hid hR
        have HQ := hid ((Kept.refl (fun _ => False) w10).alloc (.cells #[.bool true, .bool false, .int .i64 0, .int .i64 36, .string vector, .bool true, .bool true, .int .i64 0, .int .i64 kind, .string value] 33))
        clear hR
        obtain ⟨a0, a1, a2, a3, a4⟩ := (HB1.out.kept0 HW10.out).cells
        obtain ⟨b0, b1, b2, b3, b4⟩ := (HB2.out.kept0 HW10.out).cells
        unfold vecA at a0 a1 a2 a3 a4
        unfold hidA at b0 b1 b2 b3 b4
        simp only at a0 a1 a2 a3 a4 b0 b1 b2 b3 b4
        go_wp2_with fail
        refine (HS.out _ _ _ (RowsAt.kept0 HO10.out HQ.out) HR.out).mono ?_
        rintro e w11 ⟨rfl, hk11⟩
        have HK11 := hid (HK10.out.trans (HQ.out.trans hk11))
        clear hk11
        go_wp2
        go_ret
        exact ⟨rfl, HK11.out⟩
      · have hee : (other.toList == secret.toList) = false := by
          rw [beq_eq_false_iff_ne]
          intro e
          rw [ByteArray.toList_eq, ByteArray.toList_eq] at e
          exact hso (bytes_ext e)
        clear gd gh sz h123
        go_enter Tryd.func4, Tryd.ntmps4
        go_upto_region 5 with fail
        generalize (w.alloc (.cells #[.bool true, .bool false, .int .i64 0, .int .i64 36, .string vector] 33)).alloc (.cells #[.bool true, .bool true, .int .i64 0, .int .i64 kind, .string value] 33) = W0 at *
        have HW0 := hid (Kept.refl (fun _ => False) W0)
        obtain ⟨a0, a1, a2, a3, a4⟩ := (HB1.out.kept0 HW0.out).cells
        obtain ⟨b0, b1, b2, b3, b4⟩ := (HB2.out.kept0 HW0.out).cells
        unfold vecA at a0 a1 a2 a3 a4
        unfold hidA at b0 b1 b2 b3 b4
        simp only at a0 a1 a2 a3 a4 b0 b1 b2 b3 b4
        have HR1 := hid (OwnAv.at (own_two_av W0 (vecA vector) (hidA kind value) W0.heap.size (Nat.le_refl _)))
        have HQ1 := hid ((Kept.refl (fun _ => False) W0).alloc (.cells #[.bool true, .bool false, .int .i64 0, .int .i64 36, .string vector, .bool true, .bool true, .int .i64 0, .int .i64 kind, .string value] 33))
        go_wp2_with fail
        refine (HP1.out _ (HK0.out.trans HQ1.out) _ HR1.out).mono ?_
        rintro e w1 ⟨rfl, hk1⟩
        have HW1 := hid (HQ1.out.trans hk1)
        clear hk1 HR1
        clear a0 a1 a2 a3 a4 b0 b1 b2 b3 b4
        obtain ⟨a0, a1, a2, a3, a4⟩ := (HB1.out.kept0 HW1.out).cells
        obtain ⟨b0, b1, b2, b3, b4⟩ := (HB2.out.kept0 HW1.out).cells
        unfold vecA at a0 a1 a2 a3 a4
        unfold hidA at b0 b1 b2 b3 b4
        simp only at a0 a1 a2 a3 a4 b0 b1 b2 b3 b4
        have HR2 := hid (OwnAv.at (own_two_av w1 (vecA vector) (hidA kind value) w1.heap.size (Nat.le_refl _)))
        have HQ2 := hid ((Kept.refl (fun _ => False) w1).alloc (.cells #[.bool true, .bool false, .int .i64 0, .int .i64 36, .string vector, .bool true, .bool true, .int .i64 0, .int .i64 kind, .string value] 33))
        go_wp2_with fail
        refine (HP2.out _ (HK0.out.trans (HW1.out.trans HQ2.out)) _ HR2.out).mono ?_
        rintro e w2 ⟨rfl, hk2⟩
        have HW2 := hid (HW1.out.trans (HQ2.out.trans hk2))
        clear hk2 HR2 HW1
        clear a0 a1 a2 a3 a4 b0 b1 b2 b3 b4
        go_wp2_with fail
        refine (HG0.out _ (HK0.out.trans HW2.out)).mono ?_
        rintro e w3 ⟨v3, rfl, ho3, hk3⟩
        have HW3 := hid (HW2.out.trans hk3)
        clear hk3 ho3 HW2
        obtain ⟨a0, a1, a2, a3, a4⟩ := (HB1.out.kept0 HW3.out).cells
        obtain ⟨b0, b1, b2, b3, b4⟩ := (HB2.out.kept0 HW3.out).cells
        unfold vecA at a0 a1 a2 a3 a4
        unfold hidA at b0 b1 b2 b3 b4
        simp only at a0 a1 a2 a3 a4 b0 b1 b2 b3 b4
        have HR4 := hid (OwnAv.at (own_two_av w3 (hidA kind value) (vecA vector) w3.heap.size (Nat.le_refl _)))
        have HQ4 := hid ((Kept.refl (fun _ => False) w3).alloc (.cells #[.bool true, .bool true, .int .i64 0, .int .i64 kind, .string value, .bool true, .bool false, .int .i64 0, .int .i64 36, .string vector] 33))
        go_wp2_with fail
        refine (HP3.out _ (HK0.out.trans (HW3.out.trans HQ4.out)) _ HR4.out).mono ?_
        rintro e w4 ⟨rfl, hk4⟩
        have HW4 := hid (HW3.out.trans (HQ4.out.trans hk4))
        clear hk4 HR4 HW3
        clear a0 a1 a2 a3 a4 b0 b1 b2 b3 b4
        go_wp2_with fail
        refine (HG.out _ (HK0.out.trans HW4.out)).mono ?_
        rintro e w8 ⟨v8, rfl, ho8, hk8⟩
        have HKW := hid (HW4.out.trans hk8)
        have HK8 := hid (HK0.out.trans HKW.out)
        have HO8 := hid (OwnAv.at ho8)
        obtain ⟨p8, c8, hv8⟩ := slice_of ho8
        subst hv8
        clear hk8 ho8 HW4
        go_wp2_with fail
        refine (HP4.out _ HK8.out _ HO8.out).mono ?_
        rintro e w9 ⟨rfl, hk9⟩
        have HK9 := hid (HK8.out.trans hk9)
        clear hk9
        go_wp2_with fail
        refine (HA.out _).mono ?_
        rintro e w10 ⟨rfl, hk10⟩
        have HK10 := hid (HK9.out.trans hk10)
        clear hk10
        go_wp2
        go_ret
        exact ⟨rfl, HK10.out⟩
    · have hE4 : E = 4 := by
        have e := show_err (c := covA other vector) (k := kind) (x := M) (lacks_cov other hO) (by rw [hE]; exact hE0)
        rw [hE] at e
        exact e
      subst hE4
      rw [if_neg (by decide)] at HG
      clear hE hAg hE0
      clear gd gh sz h123
      go_enter Tryd.func4, Tryd.ntmps4
      go_upto_region 5 with fail
      generalize (w.alloc (.cells #[.bool true, .bool false, .int .i64 0, .int .i64 36, .string vector] 33)).alloc (.cells #[.bool true, .bool true, .int .i64 0, .int .i64 kind, .string value] 33) = W0 at *
      have HW0 := hid (Kept.refl (fun _ => False) W0)
      obtain ⟨a0, a1, a2, a3, a4⟩ := (HB1.out.kept0 HW0.out).cells
      obtain ⟨b0, b1, b2, b3, b4⟩ := (HB2.out.kept0 HW0.out).cells
      unfold vecA at a0 a1 a2 a3 a4
      unfold hidA at b0 b1 b2 b3 b4
      simp only at a0 a1 a2 a3 a4 b0 b1 b2 b3 b4
      have HR1 := hid (OwnAv.at (own_two_av W0 (vecA vector) (hidA kind value) W0.heap.size (Nat.le_refl _)))
      have HQ1 := hid ((Kept.refl (fun _ => False) W0).alloc (.cells #[.bool true, .bool false, .int .i64 0, .int .i64 36, .string vector, .bool true, .bool true, .int .i64 0, .int .i64 kind, .string value] 33))
      go_wp2_with fail
      refine (HP1.out _ (HK0.out.trans HQ1.out) _ HR1.out).mono ?_
      rintro e w1 ⟨rfl, hk1⟩
      have HW1 := hid (HQ1.out.trans hk1)
      clear hk1 HR1
      clear a0 a1 a2 a3 a4 b0 b1 b2 b3 b4
      obtain ⟨a0, a1, a2, a3, a4⟩ := (HB1.out.kept0 HW1.out).cells
      obtain ⟨b0, b1, b2, b3, b4⟩ := (HB2.out.kept0 HW1.out).cells
      unfold vecA at a0 a1 a2 a3 a4
      unfold hidA at b0 b1 b2 b3 b4
      simp only at a0 a1 a2 a3 a4 b0 b1 b2 b3 b4
      have HR2 := hid (OwnAv.at (own_two_av w1 (vecA vector) (hidA kind value) w1.heap.size (Nat.le_refl _)))
      have HQ2 := hid ((Kept.refl (fun _ => False) w1).alloc (.cells #[.bool true, .bool false, .int .i64 0, .int .i64 36, .string vector, .bool true, .bool true, .int .i64 0, .int .i64 kind, .string value] 33))
      go_wp2_with fail
      refine (HP2.out _ (HK0.out.trans (HW1.out.trans HQ2.out)) _ HR2.out).mono ?_
      rintro e w2 ⟨rfl, hk2⟩
      have HW2 := hid (HW1.out.trans (HQ2.out.trans hk2))
      clear hk2 HR2 HW1
      clear a0 a1 a2 a3 a4 b0 b1 b2 b3 b4
      go_wp2_with fail
      refine (HG0.out _ (HK0.out.trans HW2.out)).mono ?_
      rintro e w3 ⟨v3, rfl, ho3, hk3⟩
      have HW3 := hid (HW2.out.trans hk3)
      clear hk3 ho3 HW2
      obtain ⟨a0, a1, a2, a3, a4⟩ := (HB1.out.kept0 HW3.out).cells
      obtain ⟨b0, b1, b2, b3, b4⟩ := (HB2.out.kept0 HW3.out).cells
      unfold vecA at a0 a1 a2 a3 a4
      unfold hidA at b0 b1 b2 b3 b4
      simp only at a0 a1 a2 a3 a4 b0 b1 b2 b3 b4
      have HR4 := hid (OwnAv.at (own_two_av w3 (hidA kind value) (vecA vector) w3.heap.size (Nat.le_refl _)))
      have HQ4 := hid ((Kept.refl (fun _ => False) w3).alloc (.cells #[.bool true, .bool true, .int .i64 0, .int .i64 kind, .string value, .bool true, .bool false, .int .i64 0, .int .i64 36, .string vector] 33))
      go_wp2_with fail
      refine (HP3.out _ (HK0.out.trans (HW3.out.trans HQ4.out)) _ HR4.out).mono ?_
      rintro e w4 ⟨rfl, hk4⟩
      have HW4 := hid (HW3.out.trans (HQ4.out.trans hk4))
      clear hk4 HR4 HW3
      clear a0 a1 a2 a3 a4 b0 b1 b2 b3 b4
      go_wp2_with fail
      refine (HG.out _ (HK0.out.trans HW4.out)).mono ?_
      rintro e w8 ⟨v8, rfl, ho8, hk8⟩
      have HKW := hid (HW4.out.trans hk8)
      have HK8 := hid (HK0.out.trans HKW.out)
      have HO8 := hid (OwnAv.at ho8)
      obtain ⟨p8, c8, hv8⟩ := slice_of ho8
      subst hv8
      clear hk8 ho8 HW4
      go_wp2_with fail
      refine (HA.out _).mono ?_
      rintro e w9 ⟨rfl, hk9⟩
      have HK9 := hid (HK8.out.trans hk9)
      clear hk9
      go_wp2
      go_ret
      exact ⟨rfl, HK9.out⟩

theorem avpHides_walk (kind : Int) (value vector secret other : ByteArray) (w : World) (_hk : -9223372036854775808 ≤ kind ∧ kind ≤ 9223372036854775807) (h1 : value.size ≤ 140737488351232) (h2 : vector.size ≤ 140737488351232) (h3 : secret.size ≤ 140737488351232) (h4 : other.size ≤ 140737488351232) (hT : Tables w) :
    Calls Tryd.prog 4 #[.int .i64 kind, .string value, .string vector, .string secret, .string other] w fun e w' => e = .returned (.bool true) ∧ Below w.heap.size w w' := by
  refine (?_ : Calls Tryd.prog 4 #[.int .i64 kind, .string value, .string vector, .string secret, .string other] w fun e w' => e = .returned (.bool true) ∧ Kept (fun _ => False) w w').mono fun _ _ ⟨h1, h2⟩ => ⟨h1, below_of h2⟩
  by_cases h : 200 < value.size ∨ 200 < vector.size ∨ 200 < secret.size ∨ 200 < other.size ∨ secret.size = 0 ∨ kind < 0 ∨ 65535 < kind ∨ kind = 36
  · exact avpHides_not kind value vector secret other w h1 h2 h3 h4 h
  · exact avpHides_in kind value vector secret other w (by omega) (by omega) (by omega) (by omega) (by omega) (by omega) (by omega) hT
end Go.Proofs.YtnghakhgogfemaaDoor
