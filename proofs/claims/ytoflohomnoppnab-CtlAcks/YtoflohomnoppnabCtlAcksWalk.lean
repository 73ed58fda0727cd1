/- CtlAcks, walked: whatever comes with a body is answered by an ack, once; without a body nothing is. (Written by gen_ctlacks.py.) -/
import Derived.Test.YtoflohomnoppnabCnAlive
import Derived.Test.YtoflohomnoppnabCnBits
import Derived.Deep.CutBlock
import Derived.Deep.CutRange
import Derived.Deep.DeepCutAuto
import Derived.LoopTactic
namespace Go.Proofs.Ytoflohomnoppnab
open Go.RowKit

theorem acked_new (first : Int) : ackedN (newN 4 10 3 5 first) first = 0 := by
  unfold ackedN
  split
  · rfl
  · rfl
theorem take_new {first ns : Int} (body : ByteArray) (hf : 0 ≤ first ∧ first ≤ 65535) (hn : 0 ≤ ns ∧ ns ≤ 65535) :
    takeN (newN 4 10 3 5 first) ⟨ns, first, body⟩ = if body.size = 0 then (newN 4 10 3 5 first, []) else if ns = first then ({ newN 4 10 3 5 first with owed := true, come := wrapN (first + 1) }, [body]) else ({ newN 4 10 3 5 first with owed := true }, []) := by
  have h1 : numN ns = true := by unfold numN; rw [Bool.and_eq_true]; exact ⟨decide_eq_true hn.1, decide_eq_true hn.2⟩
  have h2 : numN first = true := by unfold numN; rw [Bool.and_eq_true]; exact ⟨decide_eq_true hf.1, decide_eq_true hf.2⟩
  unfold takeN
  rw [if_neg (by rintro (h | h | h) <;> simp_all [newN]), acked_new]
  rfl
theorem out_new (first : Int) : outN (newN 4 10 3 5 first) = (newN 4 10 3 5 first, []) := rfl
theorem out_owed (first come : Int) : outN { newN 4 10 3 5 first with owed := true, come := come } = ({ newN 4 10 3 5 first with come := come }, [⟨first, come, ⟨#[]⟩⟩]) := rfl
theorem out_quiet (first come : Int) : outN { newN 4 10 3 5 first with come := come } = ({ newN 4 10 3 5 first with come := come }, []) := rfl
theorem good_come {first come : Int} (hf : 0 ≤ first ∧ first ≤ 65535) (hc : 0 ≤ come ∧ come ≤ 65535) (q : Bool) : GoodN { newN 4 10 3 5 first with owed := q, come := come } := by
  have h := good_newN (win := 4) (queue := 10) (retry := 3) (wait := 5) (first := first) (by simp only [newOkN, Bool.and_eq_true, decide_eq_true_eq]; omega)
  exact { h with come := hc }

set_option maxHeartbeats 8000000 in
set_option maxRecDepth 100000 in
theorem ctlAcks_walk (first ns : Int) (body : ByteArray) (w : World) (_hf : -9223372036854775808 ≤ first ∧ first ≤ 9223372036854775807) (_hn : -9223372036854775808 ≤ ns ∧ ns ≤ 9223372036854775807) (_hb : body.size ≤ 140737488351232) :
    Calls Try.prog 4 #[.int .i64 first, .int .i64 ns, .string body] w fun e w' => e = .returned (.bool true) ∧ Below w.heap.size w w' := by
  have HA := hid (fun W => aliveN_any W)
  have HNew := hid (new_any 4 10 3 5 first w)
  clear _hf _hn _hb
  go_enter Try.func4, Try.ntmps4
  go_wp2_with fail
  refine (HNew.out).mono ?_
  rintro e w1 (⟨-, rfl, hk1⟩ | ⟨hok, b, rfl, hc0, hb, hk1⟩)
  · have HK1 := hid hk1
    clear hk1 HNew
    go_wp2_with fail
    refine (HA.out _).mono ?_
    rintro e w2 ⟨rfl, hk2⟩
    have HK2 := hid (HK1.out.trans hk2)
    clear hk2 HA
    go_wp2
    go_returns
    exact ⟨rfl, HK2.out.below (Nat.le_refl _) (fun _ f => f.elim)⟩
  clear HNew
  have hf : 0 ≤ first ∧ first ≤ 65535 := by
    simp only [newOkN, Bool.and_eq_true, decide_eq_true_eq] at hok
    omega
  have g0 := good_newN hok
  have HK1 := hid hk1
  have HC0 := hid hc0
  have HB := hid hb
  clear hk1 hc0 hb hok
  by_cases h1 : ns < 0
  · clear g0 HC0 HB
    go_wp2_with fail
    refine (HA.out _).mono ?_
    rintro e w2 ⟨rfl, hk2⟩
    have HK2 := hid (HK1.out.trans hk2)
    clear hk2 HA
    go_wp2
    go_returns
    exact ⟨rfl, HK2.out.below (Nat.le_refl _) (fun _ f => f.elim)⟩
  by_cases h2 : 65535 < ns
  · clear g0 HC0 HB
    go_wp2_with fail
    refine (HA.out _).mono ?_
    rintro e w2 ⟨rfl, hk2⟩
    have HK2 := hid (HK1.out.trans hk2)
    clear hk2 HA
    go_wp2
    go_returns
    exact ⟨rfl, HK2.out.below (Nat.le_refl _) (fun _ f => f.elim)⟩
  by_cases h3 : (1000 : Int) < (body.size : Int)
  · clear g0 HC0 HB
    go_wp2_with fail
    refine (HA.out _).mono ?_
    rintro e w2 ⟨rfl, hk2⟩
    have HK2 := hid (HK1.out.trans hk2)
    clear hk2 HA
    go_wp2
    go_returns
    exact ⟨rfl, HK2.out.below (Nat.le_refl _) (fun _ f => f.elim)⟩
  have hn : 0 ≤ ns ∧ ns ≤ 65535 := ⟨by omega, by omega⟩
  have htk := take_new (first := first) (ns := ns) body hf hn
  have HT := hid (take_any HC0.out g0 ⟨ns, first, body⟩)
  unfold iteV at HT
  have hlow : Hid (∀ i, Sn b (.slice none 0 0) (.slice none 0 0) i → w.heap.size ≤ i) := by
    rintro i (rfl | g | g)
    · exact HB.out
    · cases g
    · cases g
  by_cases hx : body.size = 0
  · have hxe : body.toList.isEmpty = true := by rw [isempty hx, ByteArray.toList_eq]; rfl
    rw [if_pos hx] at htk
    rw [htk] at HT
    have HO := hid (fun W vw vf (h : CnIn W b (newN 4 10 3 5 first) vw vf) => out_any h g0)
    rw [out_new] at HO
    clear htk hx g0
    go_wp2_with fail
    refine (HT.out).mono ?_
    rintro e w2 ⟨vo2, vw2, vf2, rfl, hn2, ho2, -⟩
    go_wp2_with fail
    refine (HO.out _ _ _ hn2.mem).mono ?_
    rintro e w3 ⟨vo3, vw3, vf3, rfl, hn3, ho3⟩
    go_wp2_with fail
    refine (HO.out _ _ _ hn3.mem).mono ?_
    rintro e w4 ⟨vo4, vw4, vf4, rfl, hn4, ho4⟩
    obtain ⟨p2, c2, rfl⟩ := own_none ho2
    obtain ⟨p3, c3, rfl⟩ := own_none ho3
    obtain ⟨p4, c4, rfl⟩ := own_none ho4
    have HKE : Hid (Kept (fun _ => False) w w4) := HK1.out.andThen ((hn2.trans hn3).trans hn4).kept (fun i hi s => by have := hlow.out i s; omega)
    clear hn2 hn3 hn4 ho2 ho3 ho4 HT HO HK1 HC0 HB hlow
    go_wp2_with fail
    refine (HA.out _).mono ?_
    rintro e w5 ⟨rfl, hk5⟩
    have HK5 := hid (HKE.out.trans hk5)
    clear hk5 HA
    go_wp2
    go_returns
    exact ⟨rfl, HK5.out.below (Nat.le_refl _) (fun _ f => f.elim)⟩
  · have hxe : body.toList.isEmpty = false := by
      rw [ByteArray.toList_eq]
      rw [Lib.size_eq] at hx
      cases hq : body.data.toList with
      | nil => rw [hq] at hx; simp at hx
      | cons a r => rfl
    rw [if_neg hx] at htk
    have m0 := and_65535 (first + 1)
    have w1 : IntKind.i64.wrap (first + 1) = first + 1 := by rw [IntKind.wrap_i64]; omega
    by_cases hq : ns = first
    · rw [if_pos hq] at htk
      rw [htk] at HT
      have hcm : 0 ≤ wrapN (first + 1) ∧ wrapN (first + 1) ≤ 65535 := wrapN_in _
      have HO1 := hid (fun W vw vf (h : CnIn W b { newN 4 10 3 5 first with owed := true, come := wrapN (first + 1) } vw vf) => out_any h (good_come hf hcm true))
      rw [out_owed] at HO1
      have HO2 := hid (fun W vw vf (h : CnIn W b { newN 4 10 3 5 first with come := wrapN (first + 1) } vw vf) => out_any h (good_come hf hcm false))
      rw [out_quiet] at HO2
      have E := ite_eql (i := ⟨first, wrapN (first + 1), ⟨#[]⟩⟩) (j := ⟨first, wrapN (first + 1), ⟨#[]⟩⟩) ⟨by dsimp only; omega, by dsimp only; omega, Nat.zero_le _⟩ ⟨by dsimp only; omega, by dsimp only; omega, Nat.zero_le _⟩
      rw [show sameI ⟨first, wrapN (first + 1), ⟨#[]⟩⟩ ⟨first, wrapN (first + 1), ⟨#[]⟩⟩ = true from sameI_iff.2 rfl] at E
      unfold iteV at E
      dsimp only at E
      have hqe : (ns == first) = true := beq_iff_eq.2 hq
      have hm : (first + 1) % 65536 = wrapN (first + 1) := rfl
      rw [hm] at m0
      generalize wrapN (first + 1) = cm at *
      clear hq hm
      clear htk hx g0 hcm
      go_wp2_with fail
      refine (HT.out).mono ?_
      rintro e w2 ⟨vo2, vw2, vf2, rfl, hn2, ho2, -⟩
      go_wp2_with fail
      refine (HO1.out _ _ _ hn2.mem).mono ?_
      rintro e w3 ⟨vo3, vw3, vf3, rfl, hn3, ho3⟩
      go_wp2_with fail
      refine (HO2.out _ _ _ hn3.mem).mono ?_
      rintro e w4 ⟨vo4, vw4, vf4, rfl, hn4, ho4⟩
      obtain ⟨p2, c2, hv2⟩ := own_slice ho2
      rw [show ([body] : List ByteArray).length = 1 from rfl] at hv2
      subst hv2
      have ho3' := hn4.own ho3 (fun i hi => hn3.mem.unlikeI ho3 hi)
      obtain ⟨p4, c4, rfl⟩ := own_none ho4
      have HKE : Hid (Kept (fun _ => False) w w4) := HK1.out.andThen ((hn2.trans hn3).trans hn4).kept (fun i hi s => by have := hlow.out i s; omega)
      clear hn2 hn3 hn4 ho2 ho3 ho4 HT HO1 HO2 HK1 HC0 HB hlow
      go_wp2_with fail
      refine (HA.out _).mono ?_
      rintro e w5 ⟨rfl, hk5⟩
      obtain ⟨ga, ca, rfl, a0, a1, a2, -⟩ := own_one (ho3'.kept0 hk5)
      dsimp only at a0 a1 a2
      have HK5 := hid (HKE.out.trans hk5)
      clear hk5 HA ho3' HKE
      go_wp2
      go_returns
      exact ⟨rfl, HK5.out.below (Nat.le_refl _) (fun _ f => f.elim)⟩
    · rw [if_neg hq] at htk
      rw [htk] at HT
      have hcm : 0 ≤ first ∧ first ≤ 65535 := hf
      have HO1 := hid (fun W vw vf (h : CnIn W b { newN 4 10 3 5 first with owed := true, come := first } vw vf) => out_any h (good_come hf hcm true))
      rw [out_owed] at HO1
      have HO2 := hid (fun W vw vf (h : CnIn W b { newN 4 10 3 5 first with come := first } vw vf) => out_any h (good_come hf hcm false))
      rw [out_quiet] at HO2
      have E := ite_eql (i := ⟨first, first, ⟨#[]⟩⟩) (j := ⟨first, first, ⟨#[]⟩⟩) ⟨by dsimp only; omega, by dsimp only; omega, Nat.zero_le _⟩ ⟨by dsimp only; omega, by dsimp only; omega, Nat.zero_le _⟩
      rw [show sameI ⟨first, first, ⟨#[]⟩⟩ ⟨first, first, ⟨#[]⟩⟩ = true from sameI_iff.2 rfl] at E
      unfold iteV at E
      dsimp only at E
      have hqe : (ns == first) = false := by rw [beq_eq_false_iff_ne]; exact hq
      clear htk hx g0 hcm
      go_wp2_with fail
      refine (HT.out).mono ?_
      rintro e w2 ⟨vo2, vw2, vf2, rfl, hn2, ho2, -⟩
      go_wp2_with fail
      refine (HO1.out _ _ _ hn2.mem).mono ?_
      rintro e w3 ⟨vo3, vw3, vf3, rfl, hn3, ho3⟩
      go_wp2_with fail
      refine (HO2.out _ _ _ hn3.mem).mono ?_
      rintro e w4 ⟨vo4, vw4, vf4, rfl, hn4, ho4⟩
      obtain ⟨p2, c2, hv2⟩ := own_slice ho2
      rw [show ([] : List ByteArray).length = 0 from rfl] at hv2
      subst hv2
      have ho3' := hn4.own ho3 (fun i hi => hn3.mem.unlikeI ho3 hi)
      obtain ⟨p4, c4, rfl⟩ := own_none ho4
      have HKE : Hid (Kept (fun _ => False) w w4) := HK1.out.andThen ((hn2.trans hn3).trans hn4).kept (fun i hi s => by have := hlow.out i s; omega)
      clear hn2 hn3 hn4 ho2 ho3 ho4 HT HO1 HO2 HK1 HC0 HB hlow
      go_wp2_with fail
      refine (HA.out _).mono ?_
      rintro e w5 ⟨rfl, hk5⟩
      obtain ⟨ga, ca, rfl, a0, a1, a2, -⟩ := own_one (ho3'.kept0 hk5)
      dsimp only at a0 a1 a2
      have HK5 := hid (HKE.out.trans hk5)
      clear hk5 HA ho3' HKE
      go_wp2
      go_returns
      exact ⟨rfl, HK5.out.below (Nat.le_refl _) (fun _ f => f.elim)⟩
end Go.Proofs.Ytoflohomnoppnab
