/- The contract of package avp's inner putOne: one value's bytes, or the error. (Written by gen_avput.py.) -/
import Derived.Test.YtkneogfeokckjaaGreatDoorAvCover
import Derived.Deep.DeepCutAuto
namespace Go.Proofs.YtkneogfeokckjaaGreatDoor
open Go.RowKit

set_option maxHeartbeats 4000000 in
set_option maxRecDepth 100000 in
theorem putOne_any (x : Av) (c : Cov) (hc : Few c) (hx : x.value.size ≤ 140737488351232) (w : World) (hM : x.hidden = true → lacksF c = 0 → MaskAt w) :
    Calls Tryz.prog 127 #[avV x, cvV c] w fun e w' => e = .returned (.tuple #[.string (putOneF x c).1, .int .i64 (putOneF x c).2]) ∧ Kept (fun _ => False) w w' := by
  obtain ⟨m, q, n, t, v⟩ := x
  have HK0 := hid (((Kept.refl (fun _ => False) w).alloc (.cells #[.bool m, .bool q, .int .i64 n, .int .i64 t, .string v] 72)).alloc (.cells #[.string c.secret, .string c.vector, .bool c.has] 129))
  have HA0 := hid ((AvAt.new w ⟨m, q, n, t, v⟩).kept0 ((Kept.refl (fun _ => False) _).alloc (.cells #[.string c.secret, .string c.vector, .bool c.has] 129)))
  have hC := CvAt.new (w.alloc (.cells #[.bool m, .bool q, .int .i64 n, .int .i64 t, .string v] 72)) c
  have hs0 : (w.alloc (.cells #[.bool m, .bool q, .int .i64 n, .int .i64 t, .string v] 72)).heap.size = w.heap.size + 1 := by simp
  rw [hs0] at hC
  have HC0 := hid hC
  have HM := hid (fun h1 h2 => (hM h1 h2).kept HK0.out)
  have HW := hid (fun W b (h : IntsV W (.slice (some ⟨b, 0, none⟩) 2 2) [n, t]) => wordsA_any _ [n, t] W h (by simp))
  rw [words_two] at HW
  unfold putOneF namesB
  simp only at hx ⊢
  clear hC hs0 hM
  unfold avV
  cases hn : (wordB n && wordB t) with
  | false =>
    rw [hn, if_neg (by simp)] at HW
    rw [if_pos rfl]
    clear hn
    go_enter Tryz.func127, Tryz.ntmps127
    unfold cvV
    go_upto_region 1 with fail
    generalize (w.alloc (.cells #[.bool m, .bool q, .int .i64 n, .int .i64 t, .string v] 72)).alloc (.cells #[.string c.secret, .string c.vector, .bool c.has] 129) = W0 at *
    obtain ⟨a0, a1, a2, a3, a4⟩ := HA0.out.cells
    have HX := hid (ints_two W0 n t)
    have HX0 := hid ((Kept.refl (fun _ => False) W0).alloc (.cells #[.int .i64 n, .int .i64 t] 3))
    go_wp2_with fail
    refine (HW.out _ _ HX.out).mono ?_
    rintro e w1 ⟨rfl, hk1⟩
    have HK1 := hid (HK0.out.trans (HX0.out.trans hk1))
    clear hk1
    go_wp2
    go_ret2
    exact ⟨rfl, HK1.out⟩
  | true =>
    rw [hn, if_pos rfl] at HW
    rw [if_neg (by simp)]
    have hnm : (two n.toNat ++ two t.toNat).size = 4 := by rw [ByteArray.size_append, two_size, two_size]
    obtain ⟨Nm, hNm⟩ : ∃ Nm, Nm = two n.toNat ++ two t.toNat := ⟨_, rfl⟩
    rw [← hNm] at HW hnm
    have HNm := hid hNm
    clear hn hNm
    by_cases h1 : 1000 < v.size
    · rw [if_pos h1]
      have h1z : (1000 : Int) < (v.size : Int) := by omega
      go_enter Tryz.func127, Tryz.ntmps127
      unfold cvV
      go_upto_region 1 with fail
      generalize (w.alloc (.cells #[.bool m, .bool q, .int .i64 n, .int .i64 t, .string v] 72)).alloc (.cells #[.string c.secret, .string c.vector, .bool c.has] 129) = W0 at *
      obtain ⟨a0, a1, a2, a3, a4⟩ := HA0.out.cells
      have HX := hid (ints_two W0 n t)
      have HX0 := hid ((Kept.refl (fun _ => False) W0).alloc (.cells #[.int .i64 n, .int .i64 t] 3))
      go_wp2_with fail
      refine (HW.out _ _ HX.out).mono ?_
      rintro e w1 ⟨rfl, hk1⟩
      have HK1 := hid (HK0.out.trans (HX0.out.trans hk1))
      clear a0 a1 a2 a3 a4
      obtain ⟨a0, a1, a2, a3, a4⟩ := (HA0.out.kept0 (HX0.out.trans hk1)).cells
      clear hk1
      go_wp2
      go_ret2
      exact ⟨rfl, HK1.out⟩
    · rw [if_neg h1]
      have h1z : ¬ (1000 : Int) < (v.size : Int) := by omega
      cases q with
      | false =>
        rw [if_neg (by simp)]
        clear HM
        go_enter Tryz.func127, Tryz.ntmps127
        unfold cvV
        go_upto_region 1 with fail
        generalize (w.alloc (.cells #[.bool m, .bool false, .int .i64 n, .int .i64 t, .string v] 72)).alloc (.cells #[.string c.secret, .string c.vector, .bool c.has] 129) = W0 at *
        obtain ⟨a0, a1, a2, a3, a4⟩ := HA0.out.cells
        have HX := hid (ints_two W0 n t)
        have HX0 := hid ((Kept.refl (fun _ => False) W0).alloc (.cells #[.int .i64 n, .int .i64 t] 3))
        go_wp2_with fail
        refine (HW.out _ _ HX.out).mono ?_
        rintro e w1 ⟨rfl, hk1⟩
        have HK1 := hid (HK0.out.trans (HX0.out.trans hk1))
        clear a0 a1 a2 a3 a4
        have HA1 := hid (HA0.out.kept0 (HX0.out.trans hk1))
        clear hk1
        obtain ⟨a0, a1, a2, a3, a4⟩ := HA1.out.cells
        have HS := hid (share_any m false (6 + v.size) (by omega))
        have hsh : shareN m false (6 + v.size) < 65536 := shareN_lt (by omega)
        have ewd := words_one (shareN m false (6 + v.size)) hsh
        have HWD := hid (fun W b (h : IntsV W (.slice (some ⟨b, 0, none⟩) 1 1) [(shareN m false (6 + v.size) : Int)]) => wordsA_any _ [(shareN m false (6 + v.size) : Int)] W h (by simp))
        rw [ewd] at HWD
        have hxz : (v.size : Int) ≤ 1002 := by omega
        have HE : Hid ((6 : Int) + (v.size : Int) = ((6 + v.size : Nat) : Int)) := by show _ = _; omega
        have hts := two_size (shareN m false (6 + v.size))
        obtain ⟨TS, hTS⟩ : ∃ TS, TS = two (shareN m false (6 + v.size)) := ⟨_, rfl⟩
        rw [← hTS] at HWD hts
        have HR := hid (hTS ▸ rfl : (TS ++ (two n.toNat ++ two t.toNat)) ++ v = laidA ⟨m, false, n, t, v⟩ v)
        obtain ⟨SN, hSN⟩ : ∃ SN : Nat, SN = shareN m false (6 + v.size) := ⟨_, rfl⟩
        rw [← hSN] at HS HWD
        clear hTS hSN hsh ewd
        have hno1 : ¬ (9223372036854775807 < TS.size + Nm.size) := by omega
        have hno2 : ¬ (9223372036854775807 < (TS ++ Nm).size + v.size) := by rw [ByteArray.size_append]; omega
        clear a0 a1 a2 a3 a4
        have HX1 := hid (ints_one w1 (SN : Int))
        have HX2 := hid ((Kept.refl (fun _ => False) w1).alloc (.cells #[.int .i64 (SN : Int)] 3))
        obtain ⟨a0, a1, a2, a3, a4⟩ := HA1.out.cells
        go_wp2_with fail
        rw [HE.out]
        refine (HS.out _).mono ?_
        rintro e w7 ⟨rfl, rfl⟩
        go_wp2_with fail
        refine (HWD.out _ _ HX1.out).mono ?_
        rintro e w8 ⟨rfl, hk8⟩
        have HK8 := hid (HK1.out.trans (HX2.out.trans hk8))
        clear hk8
        go_wp2
        go_ret2
        exact ⟨by rw [← HR.out, ← HNm.out]; rfl, HK8.out⟩
      | true =>
        rw [if_pos rfl]
        have HD := hid (fun W (h : Kept (fun _ => False) (((w.alloc (.cells #[.bool m, .bool true, .int .i64 n, .int .i64 t, .string v] 72)).alloc (.cells #[.string c.secret, .string c.vector, .bool c.has] 129))) W) => hide_any c t v hc (by omega) W (fun h2 => (HM.out rfl h2).kept h))
        have hds := hideF_size (c := c) (k := t) (x := v)
        by_cases h2 : (hideF c t v).2 = 0
        · rw [if_pos h2]
          rw [h2] at HD
          obtain ⟨X, hX⟩ : ∃ X, X = (hideF c t v).1 := ⟨_, rfl⟩
          rw [← hX] at HD hds ⊢
          clear h2 hX HM
          go_enter Tryz.func127, Tryz.ntmps127
          unfold cvV
          go_upto_region 1 with fail
          generalize (w.alloc (.cells #[.bool m, .bool true, .int .i64 n, .int .i64 t, .string v] 72)).alloc (.cells #[.string c.secret, .string c.vector, .bool c.has] 129) = W0 at *
          obtain ⟨a0, a1, a2, a3, a4⟩ := HA0.out.cells
          have HX := hid (ints_two W0 n t)
          have HX0 := hid ((Kept.refl (fun _ => False) W0).alloc (.cells #[.int .i64 n, .int .i64 t] 3))
          go_wp2_with fail
          refine (HW.out _ _ HX.out).mono ?_
          rintro e w1 ⟨rfl, hk1⟩
          have HK1 := hid (HX0.out.trans hk1)
          clear a0 a1 a2 a3 a4 hk1
          obtain ⟨a0, a1, a2, a3, a4⟩ := (HA0.out.kept0 HK1.out).cells
          obtain ⟨c0, c1, c2⟩ := (HC0.out.kept0 HK1.out).cells
          go_wp2_with fail
          refine (HD.out _ HK1.out).mono ?_
          rintro e w2 ⟨rfl, hk2⟩
          have HA1 := hid (HA0.out.kept0 (HK1.out.trans hk2))
          have HK2 := hid (HK0.out.trans (HK1.out.trans hk2))
          clear hk2 a0 a1 a2 a3 a4 c0 c1 c2 HX HX0 HK1
          obtain ⟨a0, a1, a2, a3, a4⟩ := HA1.out.cells
          have HS := hid (share_any m true (6 + X.size) (by omega))
          have hsh : shareN m true (6 + X.size) < 65536 := shareN_lt (by omega)
          have ewd := words_one (shareN m true (6 + X.size)) hsh
          have HWD := hid (fun W b (h : IntsV W (.slice (some ⟨b, 0, none⟩) 1 1) [(shareN m true (6 + X.size) : Int)]) => wordsA_any _ [(shareN m true (6 + X.size) : Int)] W h (by simp))
          rw [ewd] at HWD
          have hxz : (X.size : Int) ≤ 1002 := by omega
          have HE : Hid ((6 : Int) + (X.size : Int) = ((6 + X.size : Nat) : Int)) := by show _ = _; omega
          have hts := two_size (shareN m true (6 + X.size))
          obtain ⟨TS, hTS⟩ : ∃ TS, TS = two (shareN m true (6 + X.size)) := ⟨_, rfl⟩
          rw [← hTS] at HWD hts
          have HR := hid (hTS ▸ rfl : (TS ++ (two n.toNat ++ two t.toNat)) ++ X = laidA ⟨m, true, n, t, v⟩ X)
          obtain ⟨SN, hSN⟩ : ∃ SN : Nat, SN = shareN m true (6 + X.size) := ⟨_, rfl⟩
          rw [← hSN] at HS HWD
          clear hTS hSN hsh ewd
          have hno1 : ¬ (9223372036854775807 < TS.size + Nm.size) := by omega
          have hno2 : ¬ (9223372036854775807 < (TS ++ Nm).size + X.size) := by rw [ByteArray.size_append]; omega
          clear a0 a1 a2 a3 a4
          have HX1 := hid (ints_one w2 (SN : Int))
          have HX2 := hid ((Kept.refl (fun _ => False) w2).alloc (.cells #[.int .i64 (SN : Int)] 3))
          obtain ⟨a0, a1, a2, a3, a4⟩ := HA1.out.cells
          go_wp2_with fail
          rw [HE.out]
          refine (HS.out _).mono ?_
          rintro e w7 ⟨rfl, rfl⟩
          go_wp2_with fail
          refine (HWD.out _ _ HX1.out).mono ?_
          rintro e w8 ⟨rfl, hk8⟩
          have HK8 := hid (HK2.out.trans (HX2.out.trans hk8))
          clear hk8
          go_wp2
          go_ret2
          exact ⟨by rw [← HR.out, ← HNm.out]; rfl, HK8.out⟩
        · rw [if_neg h2]
          have hne : ((hideF c t v).2 != 0) = true := by rw [bne_iff_ne]; exact h2
          generalize (hideF c t v).2 = L at *
          generalize (hideF c t v).1 = X at *
          clear h2 HM
          go_enter Tryz.func127, Tryz.ntmps127
          unfold cvV
          go_upto_region 1 with fail
          generalize (w.alloc (.cells #[.bool m, .bool true, .int .i64 n, .int .i64 t, .string v] 72)).alloc (.cells #[.string c.secret, .string c.vector, .bool c.has] 129) = W0 at *
          obtain ⟨a0, a1, a2, a3, a4⟩ := HA0.out.cells
          have HX := hid (ints_two W0 n t)
          have HX0 := hid ((Kept.refl (fun _ => False) W0).alloc (.cells #[.int .i64 n, .int .i64 t] 3))
          go_wp2_with fail
          refine (HW.out _ _ HX.out).mono ?_
          rintro e w1 ⟨rfl, hk1⟩
          have HK1 := hid (HX0.out.trans hk1)
          clear a0 a1 a2 a3 a4 hk1
          obtain ⟨a0, a1, a2, a3, a4⟩ := (HA0.out.kept0 HK1.out).cells
          obtain ⟨c0, c1, c2⟩ := (HC0.out.kept0 HK1.out).cells
          go_wp2_with fail
          refine (HD.out _ HK1.out).mono ?_
          rintro e w2 ⟨rfl, hk2⟩
          have HK2 := hid (HK0.out.trans (HK1.out.trans hk2))
          clear hk2
          go_wp2
          go_ret2
          exact ⟨rfl, HK2.out⟩
end Go.Proofs.YtkneogfeokckjaaGreatDoor
