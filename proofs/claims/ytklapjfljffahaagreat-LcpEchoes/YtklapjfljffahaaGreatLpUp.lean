/- The contract of Waits. · The contract of Timeout. · The contract of Tick. · The contracts of Ups and Theirs. · The contracts of skip and Adopt. · The contracts of a link's Adopt and Reject; a packet that is told alone. · A law's own link of the laws' config, made with an empty tape or with none, and adopted. · The contracts of a link's tickOpened and Tick. · 'append' of what is sent onto nothing; the contract of Tick in Opened. · Take at an answer to an echo; what a link that is ticked comes to, as plain data. -/
import Derived.Test.YtklapjfljffahaaGreatAuMem
import Derived.Test.YtklapjfljffahaaGreatAuDo
import Derived.Test.YtklapjfljffahaaGreatNgDo
import Derived.Test.YtklapjfljffahaaGreatNgSmall
import Derived.Test.YtklapjfljffahaaGreatNgSentK
import Derived.Test.YtklapjfljffahaaGreatLpIn
import Derived.Deep.QuietTactic
import Derived.BigQuiet
namespace Go.Proofs.YtklapjfljffahaaGreat
open Go.RowKit

set_option maxRecDepth 100000 in
theorem waits_any (b : Nat) (c : Au) (hg : GoodA c) (w : World) (h : AutoIn w b c) : Calls Tryz.prog 67 #[.pointer (some ⟨b, 0, none⟩)] w fun e w' => e = .returned (.bool (waitsF c)) ∧ w' = w := by
  have HS := hid (state_any b c hg w h)
  unfold waitsF
  have h1 := hg.st1
  have h2 := hg.st2
  clear h hg
  obtain ⟨s, hs⟩ : ∃ s, s = c.st := ⟨_, rfl⟩
  rw [← hs] at HS h1 h2 ⊢
  clear hs
  have hc : s = 0 ∨ s = 1 ∨ s = 2 ∨ s = 3 ∨ s = 4 ∨ s = 5 ∨ s = 6 ∨ s = 7 ∨ s = 8 ∨ s = 9 := by omega
  rcases hc with rfl | rfl | rfl | rfl | rfl | rfl | rfl | rfl | rfl | rfl
  all_goals
    go_enter Tryz.func67, Tryz.ntmps67
    go_wp2_with (go_at_call 71; refine HS.out.mono ?_; rintro e w' ⟨rfl, rfl⟩)
    go_ret
    exact ⟨rfl, rfl⟩
end Go.Proofs.YtklapjfljffahaaGreat

namespace Go.Proofs.YtklapjfljffahaaGreat
open Go.RowKit

set_option maxHeartbeats 1000000 in
set_option maxRecDepth 100000 in
theorem time_any (b : Nat) (c : Au) (hg : GoodA c) (w : World) (h : AutoIn w b c) :
    Calls Tryz.prog 69 #[.pointer (some ⟨b, 0, none⟩)] w fun en w' => ∃ v, en = .returned v ∧ AutoIn w' b (timeF c).2 ∧ OwnI w' w.heap.size v (timeF c).1 ∧ Kept (fun i => i = b) w w' := by
  have c3 := h.c3
  have HW := hid (waits_any b c hg w h)
  have H4 := hid (do_any b c hg 4 ⟨by decide, by decide⟩ w h)
  have H5 := hid (do_any b c hg 5 ⟨by decide, by decide⟩ w h)
  have H := hid h
  unfold timeF
  cases hq : waitsF c with
  | false =>
    rw [hq] at HW
    simp only [Bool.false_eq_true, if_false]
    clear h hg hq
    go_enter Tryz.func69, Tryz.ntmps69
    go_wp2_with (go_at_call 67; refine HW.out.mono ?_; rintro e w' ⟨rfl, hw⟩; rw [hw]; clear hw w')
    go_ret
    exact ⟨_, rfl, H.out, OwnI.nil _ _, Kept.refl _ _⟩
  | true =>
    rw [hq] at HW
    simp only [if_true]
    clear h hg hq
    by_cases h0 : 0 < c.ct
    · rw [if_pos h0]
      go_enter Tryz.func69, Tryz.ntmps69
      go_wp2_with (first | (go_at_call 67; refine HW.out.mono ?_; rintro e w' ⟨rfl, hw⟩; rw [hw]; clear hw w'))
      refine H4.out.mono ?_
      rintro e w' ⟨v, rfl, ha, ho, hk⟩
      clear HW H4 H5
      go_wp2
      go_ret
      exact ⟨v, rfl, ha, ho, hk⟩
    · rw [if_neg h0]
      go_enter Tryz.func69, Tryz.ntmps69
      go_wp2_with (first | (go_at_call 67; refine HW.out.mono ?_; rintro e w' ⟨rfl, hw⟩; rw [hw]; clear hw w'))
      refine H5.out.mono ?_
      rintro e w' ⟨v, rfl, ha, ho, hk⟩
      clear HW H4 H5
      go_wp2
      go_ret
      exact ⟨v, rfl, ha, ho, hk⟩
end Go.Proofs.YtklapjfljffahaaGreat

namespace Go.Proofs.YtklapjfljffahaaGreat
open Go.RowKit

def tickN (n : Ng) : Ng × List Pk0 :=
  if waitsF n.au = false then (n, []) else if n.ticks + 1 < n.wait then ({ n with ticks := n.ticks + 1 }, []) else actsF (un n) { n with ticks := 0, au := (timeF n.au).2 } (timeF n.au).1

theorem timeF_short (c : Au) : (timeF c).1.length ≤ 100 := by
  unfold timeF
  split
  · split
    · have := next_short c.st 4
      unfold doF
      simp only
      omega
    · have := next_short c.st 5
      unfold doF
      simp only
      omega
  · exact Nat.zero_le _

set_option maxHeartbeats 4000000 in
set_option maxRecDepth 100000 in
theorem ngTick_any {base b : Nat} {a : Nm} {n : Ng} (w : World) (h : NegIn w base b a n) (ht : n.ticks < n.wait) :
    Calls Tryz.prog 38 #[.pointer (some ⟨b, 0, none⟩)] w fun e w' => ∃ vo, e = .returned vo ∧ Sent w w' base b a (tickN n) vo := by
  have HN := hid (ngNone_any w h)
  have HW := hid (waits_any a.am n.au h.good.au w h.auto)
  have n0 := h.n0
  have n6 := h.n6
  have n11 := h.n11
  have f11 := h.fz 11
  have H := hid h
  have g := h.good
  unfold tickN
  clear h
  cases hq : waitsF n.au with
  | false =>
    rw [hq] at HW
    rw [if_pos rfl]
    go_enter Tryz.func38, Tryz.ntmps38
    go_wp2_with (first
      | (go_at_call 55; refine HN.out.mono ?_; rintro e w' ⟨rfl, hw⟩; rw [hw]; clear hw w')
      | (go_at_call 67; refine HW.out.mono ?_; rintro e w' ⟨rfl, hw⟩; rw [hw]; clear hw w'))
    go_ret
    exact ⟨_, rfl, Sent.none (NNext.refl H.out)⟩
  | true =>
    rw [hq] at HW
    rw [if_neg (by simp)]
    have hw1 : IntKind.i64.wrap (n.ticks + 1) = n.ticks + 1 := by rw [IntKind.wrap_i64]; have := g.ticks; omega
    have N1 := H.out.set (n' := { n with ticks := n.ticks + 1 }) 11 (.int .i64 (n.ticks + 1)) rfl ⟨g.au, g.fails, g.wait, g.id, g.naks, (by have := g.ticks; have := g.wait; simp only; omega), g.ups, g.downs, g.req, g.mine, g.theirs⟩ rfl rfl rfl rfl rfl rfl
    by_cases hlt : n.ticks + 1 < n.wait
    · rw [if_pos hlt]
      have HN1 := hid N1
      clear N1 g hq
      go_enter Tryz.func38, Tryz.ntmps38
      go_wp2_with (first
        | (go_at_call 55; refine HN.out.mono ?_; rintro e w' ⟨rfl, hw⟩; rw [hw]; clear hw w')
        | (go_at_call 67; refine HW.out.mono ?_; rintro e w' ⟨rfl, hw⟩; rw [hw]; clear hw w'))
      go_region
      go_wp2
      go_ret
      exact ⟨_, rfl, Sent.none (HN1.out.then0 (Kept.refl _ _).drew)⟩
    · rw [if_neg hlt]
      have HN1 := hid N1
      clear N1 hq
      go_enter Tryz.func38, Tryz.ntmps38
      go_wp2_with (first
        | (go_at_call 55; refine HN.out.mono ?_; rintro e w' ⟨rfl, hw⟩; rw [hw]; clear hw w')
        | (go_at_call 67; refine HW.out.mono ?_; rintro e w' ⟨rfl, hw⟩; rw [hw]; clear hw w'))
      go_region
      go_upto_region 6 with fail
      have N2 := hid (HN1.out.then0 ((Kept.refl (fun _ => False) (w.setCell ⟨b, 11, none⟩ (.int .i64 (n.ticks + 1)))).drew))
      clear n0 n6 n11 f11 HN1 HN HW
      generalize (w.setCell ⟨b, 11, none⟩ (.int .i64 (n.ticks + 1))).drew = w2 at *
      have d11 := N2.out.neg.n11
      have f11 := N2.out.neg.fz 11
      have N3 := N2.out.neg.set (n' := { n with ticks := 0 }) 11 (.int .i64 0) rfl ⟨g.au, g.fails, g.wait, g.id, g.naks, ⟨by simp, by simp⟩, g.ups, g.downs, g.req, g.mine, g.theirs⟩ rfl rfl rfl rfl rfl rfl
      have NT := hid (N2.out.trans N3)
      clear N3
      go_upto_region 7 with fail
      generalize w2.setCell ⟨b, 11, none⟩ (.int .i64 0) = w3 at *
      clear d11 f11 N2
      have n0 := NT.out.neg.n0
      have HTm := hid (time_any a.am n.au g.au w3 NT.out.neg.auto)
      go_wp2_with fail
      refine HTm.out.mono ?_
      rintro e w4 ⟨vd, rfl, ha, ho, hk⟩
      have N4 := hid (NT.out.trans (NT.out.neg.step ha (g.au.time) hk))
      have HO := hid ho
      obtain ⟨pd, cd, rfl⟩ := ho.slice
      have HU := hid (unasked_any w4 N4.out.neg)
      unfold czV at HU
      simp only at HU
      clear ha ho hk NT HTm
      go_wp2_with fail
      refine HU.out.mono ?_
      rintro e w5 ⟨rfl, hk⟩
      have N5 := hid (N4.out.then0 hk)
      have HA := hid (act_any (un n) (.slice none 0 0) (.slice none 0 0) _ none (timeF n.au).1 (timeF_short n.au) w5 N5.out.neg (un_at n) (HO.out.kept0 hk))
      unfold czV un at HA
      simp only at HA
      clear hk HU N4 HO
      go_wp2_with fail
      refine HA.out.mono ?_
      rintro e w6 ⟨vo, rfl, vt, l, U⟩
      have HS := hid (Sent.of N5.out U (fun i hi => by cases hi))
      obtain ⟨p, cap, rfl⟩ := slice_of U.out.row
      clear U
      go_wp2
      go_ret
      exact ⟨_, rfl, HS.out⟩
end Go.Proofs.YtklapjfljffahaaGreat

namespace Go.Proofs.YtklapjfljffahaaGreat
open Go.RowKit

set_option maxRecDepth 100000 in
theorem ngUps_any {base b : Nat} {a : Nm} {n : Ng} (w : World) (h : NegIn w base b a n) : Calls Tryz.prog 70 #[.pointer (some ⟨b, 0, none⟩)] w fun e w' => e = .returned (.tuple #[.int .i64 n.ups, .int .i64 n.downs]) ∧ Kept (fun _ => False) w w' := by
  have c14 := h.n14
  have c15 := h.n15
  have HN := hid (ngNone_any w h)
  clear h
  go_enter Tryz.func70, Tryz.ntmps70
  go_wp2_with (first
    | (go_at_call 55; refine HN.out.mono ?_; rintro e w' ⟨rfl, hw⟩; rw [hw]; clear hw w'))
  go_region
  go_wp2
  go_ret2
  exact ⟨rfl, (Kept.refl _ _).drew⟩


set_option maxRecDepth 100000 in
theorem ngTheirs_any {base b : Nat} {a : Nm} {n : Ng} (w : World) (h : NegIn w base b a n) : Calls Tryz.prog 49 #[.pointer (some ⟨b, 0, none⟩)] w fun e w' => ∃ u, e = .returned u ∧ OwnO w' w.heap.size u (theirsF n) ∧ Kept (fun _ => False) w w' := by
  have c13 := h.n13
  have HS := hid (ngState_any w h)
  have HC := hid (cloneO_any a.vt n.theirs w h.theirs.at (by have := h.good.theirs.1; omega))
  unfold theirsF
  obtain ⟨p, cap, hv⟩ := slice_of h.theirs
  rw [hv] at c13 HC
  clear h hv
  by_cases h9 : n.au.st = 9
  · have h9z : (n.au.st != 9) = false := by simp [h9]
    rw [if_pos h9]
    clear h9
    go_enter Tryz.func49, Tryz.ntmps49
    go_wp2_with (first
      | (go_at_call 42; refine HS.out.mono ?_; rintro e w' ⟨rfl, hw⟩; rw [hw]; clear hw w'))
    refine HC.out.mono ?_
    rintro e w1 ⟨u, rfl, ho, hk⟩
    have HO := hid ho
    clear ho
    go_wp2
    go_ret
    exact ⟨_, rfl, HO.out, hk⟩
  · have h9z : (n.au.st != 9) = true := by simp [h9]
    rw [if_neg h9]
    clear h9 HC
    go_enter Tryz.func49, Tryz.ntmps49
    go_wp2_with (first
      | (go_at_call 42; refine HS.out.mono ?_; rintro e w' ⟨rfl, hw⟩; rw [hw]; clear hw w'))
    go_ret
    exact ⟨_, rfl, OwnO.nil _ _, Kept.refl _ _⟩
end Go.Proofs.YtklapjfljffahaaGreat

namespace Go.Proofs.YtklapjfljffahaaGreat
open Go.RowKit

def stepE (n : Ng) (e : Int) : Ng := (doF n.au e).1.foldl tallyF { n with au := (doF n.au e).2 }
def skipN (n : Ng) : Ng := ([2, 0, 8, 6] : List Int).foldl stepE n

theorem own_ints4 (w : World) (x0 x1 x2 x3 : Int) : OwnI (w.alloc (.cells #[.int .i64 x0, .int .i64 x1, .int .i64 x2, .int .i64 x3] 3)) w.heap.size (.slice (some ⟨w.heap.size, 0, none⟩) 4 4) [x0, x1, x2, x3] :=
  ⟨rfl, Or.inr ⟨w.heap.size, 4, _, rfl, Nat.le_refl _, heap_alloc_new w _, Nat.le_refl _, by decide, rfl, rfl⟩⟩

set_option maxHeartbeats 4000000 in
set_option maxRecDepth 100000 in
theorem skip_any {base b : Nat} {a : Nm} {n : Ng} (w : World) (h : NegIn w base b a n) : Calls Tryz.prog 73 #[.pointer (some ⟨b, 0, none⟩)] w fun e w' => e = .returned (.tuple #[]) ∧ NNext w w' base b a a (skipN n) := by
  have k0 := (Kept.refl (fun _ => False) w).alloc (.cells #[.int .i64 2, .int .i64 0, .int .i64 8, .int .i64 6] 3)
  have O0 := own_ints4 w 2 0 8 6
  have hA := h.kept0 k0
  have F0 := ints_far hA O0
  generalize hAe : w.alloc (.cells #[.int .i64 2, .int .i64 0, .int .i64 8, .int .i64 6] 3) = A at *
  have HAe := hid hAe
  have HO := hid O0
  have HF := hid F0
  have HK := hid k0
  have HN := hid hA
  unfold skipN
  generalize hev : ([2, 0, 8, 6] : List Int) = evs at *
  have hlen : evs.length = 4 := by rw [← hev]; rfl
  have h64 : Hid (∀ x ∈ evs, In64 x) := by
    intro x hx
    rw [← hev] at hx
    simp at hx
    rcases hx with rfl | rfl | rfl | rfl <;> exact ⟨by decide, by decide⟩
  clear hAe h k0 O0 hA F0 hev
  go_enter Tryz.func73, Tryz.ntmps73
  go_wp2
  rw [HAe.out]
  clear HAe
  go_loopw [8] (fun vi wr => ∃ j : Nat, j ≤ 4 ∧ vi = .int .i64 (j : Int) ∧ Hid (NNext A wr base b a a ((evs.take j).foldl stepE n))) (fun vi _ => 4 - (intOf vi).toNat)
  case atStart => exact ⟨0, Nat.zero_le _, rfl, NNext.refl HN.out⟩
  case round =>
    obtain ⟨j, hj, rfl, HI⟩ := hrel
    by_cases hlt : j < 4
    · have hltz : (j : Int) < 4 := by omega
      obtain ⟨x, hx⟩ : ∃ x, evs[j]? = some x := ⟨evs[j]'(by omega), by simp⟩
      have HO1 := HO.out.kept HI.out.kept HF.out
      obtain ⟨p', cap', ev, hcell⟩ := HO1.form
      rw [hlen] at ev
      simp only [Value.slice.injEq, true_and] at ev
      obtain ⟨rfl, rfl⟩ := ev
      obtain ⟨g, eg, _, hcl⟩ := hcell j x hx
      simp only [Option.some.injEq, Addr.mk.injEq, and_true] at eg
      subst eg
      have eN : (evs.take (j + 1)).foldl stepE n = stepE ((evs.take j).foldl stepE n) x := by
        rw [List.take_add_one, hx, List.foldl_append]
        rfl
      have EN := hid eN
      have n0 := HI.out.neg.n0
      have hx64 := h64.out x (List.mem_of_getElem? hx)
      generalize (evs.take j).foldl stepE n = m at *
      have HD := hid (do_any a.am m.au HI.out.neg.good.au x hx64 wr HI.out.neg.auto)
      have hsh := next_short m.au.st x
      have HG := hid (HI.out.neg.good.au.do x)
      clear hx hcell HO1 eN
      go_wp2_with fail
      refine HD.out.mono ?_
      rintro e w1 ⟨vd, rfl, ha, ho, hk⟩
      have N1 := hid (HI.out.trans (HI.out.neg.step ha HG.out hk))
      have HL := hid ho
      have HLf := hid (ints_far N1.out.neg ho)
      obtain ⟨pd, cd, rfl⟩ := ho.slice
      have eS : Hid (stepE m x = (doF m.au x).1.foldl tallyF { m with au := (doF m.au x).2 }) := rfl
      have hsh2 : (doF m.au x).1.length ≤ 3 := hsh
      generalize doF m.au x = D at *
      clear ha ho hk HD hsh n0 hcl HI
      go_wp2
      go_loopw [19] (fun vk wq => ∃ k : Nat, k ≤ D.1.length ∧ vk = .int .i64 (k : Int) ∧ Hid (NNext w1 wq base b a a ((D.1.take k).foldl tallyF { m with au := D.2 }))) (fun vk _ => D.1.length - (intOf vk).toNat)
      case atStart => exact ⟨0, Nat.zero_le _, rfl, NNext.refl N1.out.neg⟩
      case round =>
        obtain ⟨k, hk, rfl, HQ⟩ := hrel
        by_cases hkl : k < D.1.length
        · have hklz : (k : Int) < (D.1.length : Int) := by omega
          obtain ⟨y, hy⟩ : ∃ y, D.1[k]? = some y := ⟨D.1[k], by simp [hkl]⟩
          obtain ⟨p2, cap2, ev2, hcell2⟩ := (HL.out.kept HQ.out.kept HLf.out).form
          simp only [Value.slice.injEq, true_and] at ev2
          obtain ⟨rfl, rfl⟩ := ev2
          obtain ⟨g2, rfl, hcap2, hcl2⟩ := hcell2 k y hy
          have eT : (D.1.take (k + 1)).foldl tallyF { m with au := D.2 } = tallyF ((D.1.take k).foldl tallyF { m with au := D.2 }) y := by
            rw [List.take_add_one, hy, List.foldl_append]
            rfl
          have ET := hid eT
          have HC := hid (ngCount_any y _ HQ.out.neg)
          clear hy hcell2 eT
          go_wp2_with fail
          refine HC.out.mono ?_
          rintro e w2 ⟨rfl, N2⟩
          have R : Hid (NNext w1 w2 base b a a ((D.1.take (k + 1)).foldl tallyF { m with au := D.2 })) := by
            show NNext w1 w2 base b a a _
            rw [ET.out]
            exact HQ.out.trans N2
          clear N2 HC HQ
          go_wp2
          exact ⟨⟨k + 1, hkl, by go_num, R.out⟩, by simp [intOf]; omega⟩
        · obtain rfl : k = D.1.length := by omega
          have hklz : ¬ (D.1.length : Int) < (D.1.length : Int) := by omega
          have R : Hid (NNext A wr base b a a ((evs.take (j + 1)).foldl stepE n)) := by
            show NNext A wr base b a a _
            rw [EN.out, eS.out]
            have := HQ.out
            rw [List.take_length] at this
            exact N1.out.trans this
          clear HQ
          go_wp2
          exact ⟨⟨j + 1, hlt, by go_num, R.out⟩, by simp [intOf]; omega⟩
    · obtain rfl : j = 4 := by omega
      have R : Hid (NNext A wr base b a a (evs.foldl stepE n)) := by
        have := HI.out
        rw [List.take_of_length_le (by omega)] at this
        exact this
      clear HI hlt
      go_wp2
      go_end0
      exact ⟨rfl, NNext.before0 HK.out R.out⟩

set_option maxHeartbeats 1000000 in
set_option maxRecDepth 100000 in
theorem adopt_late {base b : Nat} {a : Nm} {n : Ng} (va vb : Value) (w : World) (h : NegIn w base b a n) (h0 : ¬ n.au.st = 0) (h1 : ¬ n.au.st = 1) :
    Calls Tryz.prog 43 #[.pointer (some ⟨b, 0, none⟩), va, vb] w fun e w' => e = .returned (.int .i64 20) ∧ w' = w := by
  have HN := hid (ngNone_any w h)
  have HS := hid (ngState_any w h)
  have z0 : (n.au.st != 0) = true := by simpa using h0
  have z1 : (n.au.st != 1) = true := by simpa using h1
  clear h h0 h1
  go_enter Tryz.func43, Tryz.ntmps43
  go_wp2_with (first
    | (go_at_call 55; refine HN.out.mono ?_; rintro e w' ⟨rfl, hw⟩; rw [hw]; clear hw w')
    | (go_at_call 42; refine HS.out.mono ?_; rintro e w' ⟨rfl, hw⟩; rw [hw]; clear hw w'))
  go_ret
  exact ⟨rfl, rfl⟩

/-- What was acked to the peer is another list, made since W0. -/
theorem nnext_theirs {W0 W : World} {base b : Nat} {a0 a : Nm} {n : Ng} {u : Value} {l : List Tg} (N : NNext W0 W base b a0 a n) (ho : OwnO W base u l) (hf : FineO l) (hfar : ∀ i, a.vr.ownBlock = some i → u.ownBlock ≠ some i) (hfr : ∀ i, u.ownBlock = some i → W0.heap.size ≤ i) :
    NNext W0 (W.setCell ⟨b, 13, none⟩ u) base b a0 { a with vt := u } { n with theirs := l } := by
  have hn := (N.neg.setTheirs ho hf hfar (W0 := { W with heap := #[] }) (fun i _ => Nat.zero_le _) ⟨rfl, rfl, rfl, Nat.zero_le _, fun k hk => absurd hk (by simp)⟩).neg
  exact ⟨hn, N.am, N.fr, N.fm, fun i hi => Or.inr (hfr i hi), N.kept.andThen (kept_cell W b 13 u) (fun i _ e => Or.inl e)⟩

def errF (la lb : List Tg) : Int := if (putOptsF la).2 ≠ 0 then (putOptsF la).2 else (putOptsF lb).2

set_option maxHeartbeats 4000000 in
set_option maxRecDepth 100000 in
theorem adopt_any {base b : Nat} {a : Nm} {n : Ng} (va vb : Value) (la lb : List Tg) (w : World) (h : NegIn w base b a n) (h0 : n.au.st = 0) (ha : OptsAt w va la) (hb : OptsAt w vb lb) (hfa : FineO la) (hfb : FineO lb) :
    Calls Tryz.prog 43 #[.pointer (some ⟨b, 0, none⟩), va, vb] w fun e w' => (¬ errF la lb = 0 ∧ e = .returned (.int .i64 (errF la lb)) ∧ Kept (fun _ => False) w w') ∨ (errF la lb = 0 ∧ e = .returned (.int .i64 0) ∧ ∃ a', NNext w w' base b a a' (skipN { n with mine := la, theirs := lb })) := by
  have HN := hid (ngNone_any w h)
  have HS := hid (ngState_any w h)
  rw [h0] at HS
  obtain ⟨pa, ca, hva⟩ := ha.1.slice
  obtain ⟨pb, cb, hvb⟩ := hb.1.slice
  have k0 := (Kept.refl (fun _ => False) w).alloc (.cells #[va, vb] 22)
  have HP : Hid (∀ (j : Nat) (x : List Tg), [la, lb][j]? = some x → ∃ p c, (w.alloc (.cells #[va, vb] 22)).cell? ⟨w.heap.size, j, none⟩ = some (.slice p x.length c) ∧ OptsAt (w.alloc (.cells #[va, vb] 22)) (.slice p x.length c) x ∧ FineO x) := by
    intro j x hj
    have hc : (w.alloc (.cells #[va, vb] 22)).cell? ⟨w.heap.size, j, none⟩ = [va, vb][j]? := by
      rw [World.cell?_alloc_new]
      simp
    cases j with
    | zero =>
      have : la = x := by simpa using hj
      subst this
      exact ⟨pa, ca, by rw [hc, hva]; rfl, by rw [← hva]; exact ha.kept0 k0, hfa⟩
    | succ j =>
      cases j with
      | zero =>
        have : lb = x := by simpa using hj
        subst this
        exact ⟨pb, cb, by rw [hc, hvb]; rfl, by rw [← hvb]; exact hb.kept0 k0, hfb⟩
      | succ j => simp at hj
  have HAa := hid (fun (W : World) (k : Kept (fun _ => False) w W) => cloneO_any va la W (ha.kept0 k) (by have := hfa.1; omega))
  have HBb := hid (fun (W : World) (k : Kept (fun _ => False) w W) => cloneO_any vb lb W (hb.kept0 k) (by have := hfb.1; omega))
  have HFa := hid hfa
  have HFb := hid hfb
  have HI0 := hid h
  have HK := hid k0
  subst hva hvb
  generalize hAe : w.alloc (.cells #[.slice pa la.length ca, .slice pb lb.length cb] 22) = A at *
  have HAe := hid hAe
  clear hAe k0 h ha hb hfa hfb h0
  go_enter Tryz.func43, Tryz.ntmps43
  go_wp2_with (first
    | (go_at_call 55; refine HN.out.mono ?_; rintro e w' ⟨rfl, hw⟩; rw [hw]; clear hw w')
    | (go_at_call 42; refine HS.out.mono ?_; rintro e w' ⟨rfl, hw⟩; rw [hw]; clear hw w'))
  rw [HAe.out]
  clear HAe
  go_loopw [26] (fun vi wr => ∃ j : Nat, j ≤ 2 ∧ vi = .int .i64 (j : Int) ∧ Hid ((∀ (i : Nat) (x : List Tg), i < j → [la, lb][i]? = some x → (putOptsF x).2 = 0) ∧ Kept (fun _ => False) A wr)) (fun vi _ => 2 - (intOf vi).toNat)
  case atStart => exact ⟨0, Nat.zero_le _, rfl, fun i x hi => by omega, Kept.refl _ _⟩
  case round =>
    obtain ⟨j, hj, rfl, HI⟩ := hrel
    by_cases hlt : j < 2
    · have hltz : (j : Int) < 2 := by omega
      obtain ⟨x, hx⟩ : ∃ x, [la, lb][j]? = some x := ⟨[la, lb][j]'(by simpa using hlt), by simp⟩
      obtain ⟨p, c, hc, hox, hfx⟩ := HP.out j x hx
      have hc' := (HI.out.2.cell (p := ⟨w.heap.size, j, none⟩) (lt_of_cell hc) id).trans hc
      have HPo := hid (putOpts_any (.slice p x.length c) x wr (hox.kept0 HI.out.2).1 hfx.2.2)
      have HKw := hid (HK.out.trans HI.out.2)
      obtain ⟨B, hB⟩ : ∃ B, B = (⟨(putOptsF x).1.toArray⟩ : ByteArray) := ⟨_, rfl⟩
      obtain ⟨E, hE⟩ : ∃ E, E = (putOptsF x).2 := ⟨_, rfl⟩
      rw [← hB, ← hE] at HPo
      have HX := hid hx
      by_cases hz : E = 0
      · have R1 : Hid (∀ (i : Nat) (y : List Tg), i < j + 1 → [la, lb][i]? = some y → (putOptsF y).2 = 0) := by
          intro i y hi hy
          by_cases hij : i < j
          · exact HI.out.1 i y hij hy
          · obtain rfl : i = j := by omega
            rw [HX.out] at hy
            cases hy
            rw [← hE, hz]
        have hez : (E != 0) = false := by simp [hz]
        have HII := hid HI.out.2
        clear hz hE hB hx hc hox hfx HI
        go_wp2_with fail
        refine HPo.out.mono ?_
        rintro e w1 ⟨rfl, hk1⟩
        have R2 := hid (HII.out.trans hk1)
        clear hk1
        go_wp2
        exact ⟨⟨j + 1, hlt, by go_num, R1.out, R2.out⟩, by simp [intOf]; omega⟩
      · have hez : (E != 0) = true := by simpa using hz
        have R1 : Hid (errF la lb = E) := by
          show errF la lb = E
          unfold errF
          have hcase : j = 0 ∨ j = 1 := by omega
          rcases hcase with rfl | rfl
          · have : la = x := by simpa using HX.out
            subst this
            rw [if_pos (by rw [← hE]; exact hz), hE]
          · have : lb = x := by simpa using HX.out
            subst this
            rw [if_neg (by rw [HI.out.1 0 la (by omega) rfl]; simp), hE]
        have HZ := hid hz
        clear hz hE hB hx hc hox hfx HI
        go_wp2_with fail
        refine HPo.out.mono ?_
        rintro e w1 ⟨rfl, hk1⟩
        have R2 := hid (HKw.out.trans hk1)
        clear hk1
        go_wp2
        go_ret
        exact Or.inl ⟨by rw [R1.out]; exact HZ.out, by rw [R1.out]; rfl, R2.out⟩
    · obtain rfl : j = 2 := by omega
      have R1 : Hid (errF la lb = 0) := by
        show errF la lb = 0
        unfold errF
        rw [if_neg (by rw [HI.out.1 0 la (by omega) rfl]; simp), HI.out.1 1 lb (by omega) rfl]
      have K1 := hid (HK.out.trans HI.out.2)
      clear HI hlt HP
      go_wp2_with fail
      refine (HAa.out _ K1.out).mono ?_
      rintro e w1 ⟨u1, rfl, ho1, hk1⟩
      obtain ⟨p1, c1, rfl⟩ := slice_of ho1
      have K2 := hid (K1.out.trans hk1)
      have O1 := hid ho1
      clear ho1 hk1
      go_wp2_with fail
      refine (HBb.out _ K2.out).mono ?_
      rintro e w2 ⟨u2, rfl, ho2, hk2⟩
      obtain ⟨p2, c2, rfl⟩ := slice_of ho2
      have K3 := hid (K2.out.trans hk2)
      have O1' := hid (O1.out.kept hk2)
      have O2 := hid ho2
      have H2 := HI0.out.kept0 K3.out
      have d12 := H2.n12
      have f12 := H2.fz 12
      have d13 := H2.n13
      have f13 := H2.fz 13
      have hb0 : base ≤ w.heap.size := by have := HI0.out.lo; have := HI0.out.lt; omega
      have hs1 := K1.out.size
      have hs2 := K2.out.size
      have NM := H2.setMine (l := la) (O1'.out.mono (by omega)) HFa.out (fun i hi e => by have := HI0.out.sn_lt i (Or.inr (Or.inr hi)); have := O1'.out.baseB e; omega) (W0 := w) (fun i hi => by have := O1'.out.baseB hi; omega) K3.out
      have hk12 := kept_cell w2 b 12 (.slice p1 la.length c1)
      have NTh := nnext_theirs NM ((O2.out.keptS hk12 (fun i hi => H2.ne_b O2.out hi)).mono (by omega)) HFb.out (fun i hi e => by have := HI0.out.sn_lt i (Or.inr (Or.inr hi)); have := O2.out.baseB e; omega) (fun i hi => by have := O2.out.baseB hi; omega)
      have HSk := hid (skip_any _ NTh.neg)
      have NT := hid NTh
      clear H2 NM hk12 NTh ho2 hk2 O1 HN HS
      go_wp2_with fail
      refine HSk.out.mono ?_
      rintro e w4 ⟨rfl, N4⟩
      have NF := hid (NT.out.trans N4)
      clear N4 HSk NT
      go_wp2
      go_ret
      exact Or.inr ⟨R1.out, rfl, _, NF.out⟩
end Go.Proofs.YtklapjfljffahaaGreat

namespace Go.Proofs.YtklapjfljffahaaGreat
open Go.RowKit

theorem one_pk (W1 : World) (lo : Nat) (h : lo ≤ W1.heap.size) (c i : Int) (s : ByteArray) : (W1.alloc (.cells #[.int .i64 c, .int .i64 i, .slice none 0 0, .string s] 24)).ownsRow lo 24 4 (.slice (some ⟨W1.heap.size, 0, none⟩) 1 1) 1 (rowP [(⟨c, i, [], s⟩, .slice none 0 0)]) :=
  ⟨rfl, Or.inr ⟨W1.heap.size, 1, _, rfl, h, heap_alloc_new W1 _, Nat.le_refl _, by decide, rfl, rfl⟩⟩
theorem lsent_told {W W1 : World} {base b : Nat} {m m' : Lm} {l' : Lp} (k : LNext W W1 base b m m' l') (c i : Int) (s : ByteArray) :
    LSent W (W1.alloc (.cells #[.int .i64 c, .int .i64 i, .slice none 0 0, .string s] 24)) base b m (l', [⟨c, i, [], s⟩]) (.slice (some ⟨W1.heap.size, 0, none⟩) 1 1) :=
  ⟨m', [(⟨c, i, [], s⟩, .slice none 0 0)], ⟨k.then0 ((Kept.refl _ _).alloc _), one_pk W1 _ k.kept.size c i s, fun p hp => by rw [List.mem_singleton.1 hp]; exact OwnO.nil _ _, fun p hp i hi => by rw [List.mem_singleton.1 hp] at hi; cases hi⟩, rfl⟩

def adoptL (l : Lp) (la lb : List Tg) : Lp := { l with ng := skipN { l.ng with mine := la, theirs := lb } }
set_option maxRecDepth 100000 in
theorem lcpAdopt_any {base b : Nat} {m : Lm} {l : Lp} (va vb : Value) (la lb : List Tg) (w : World) (h : LcpIn w base b m l) (h0 : l.ng.au.st = 0) (ha : OptsAt w va la) (hb : OptsAt w vb lb) (hfa : FineO la) (hfb : FineO lb) (he : errF la lb = 0) :
    Calls Tryz.prog 18 #[.pointer (some ⟨b, 0, none⟩), va, vb] w fun e w' => e = .returned (.int .i64 0) ∧ ∃ m', LNext w w' base b m m' (adoptL l la lb) := by
  have HN := hid (negotiation_any w h)
  have HA := hid (adopt_any va vb la lb w h.neg h0 ha hb hfa hfb)
  have H := hid h
  have HE := hid he
  obtain ⟨pa, ca, rfl⟩ := ha.1.slice
  obtain ⟨pb, cb, rfl⟩ := hb.1.slice
  unfold adoptL
  clear h ha hb hfa hfb h0 he
  generalize skipN { l.ng with mine := la, theirs := lb } = K at *
  go_enter Tryz.func18, Tryz.ntmps18
  go_wp2_with (first | (go_at_call 31; refine HN.out.mono ?_; rintro e w' ⟨rfl, hw⟩; rw [hw]; clear hw w'))
  refine HA.out.mono ?_
  rintro e w1 (⟨h1, _⟩ | ⟨_, rfl, a', hn⟩)
  · exact absurd HE.out h1
  · have NX := hid (H.out.ofNeg hn)
    clear hn
    go_wp2
    go_ret
    exact ⟨rfl, _, NX.out⟩

set_option maxHeartbeats 2000000 in
set_option maxRecDepth 100000 in
theorem reject_no {base b : Nat} {m : Lm} {l : Lp} (x : Int) (s : ByteArray) (w : World) (h : LcpIn w base b m l) (hc : ¬ l.ng.au.st = 9 ∨ x < 0 ∨ 65535 < x) :
    Calls Tryz.prog 14 #[.pointer (some ⟨b, 0, none⟩), .int .i64 x, .string s] w fun e w' => e = .returned (.slice none 0 0) ∧ w' = w := by
  have HO := hid (isOpened_any w h)
  clear h
  by_cases h9 : l.ng.au.st = 9
  · have e9 : (l.ng.au.st == 9) = true := by simp [h9]
    rw [e9] at HO
    have hc' : x < 0 ∨ (¬ x < 0 ∧ 65535 < x) := by
      rcases hc with h | h | h
      · exact absurd h9 h
      · exact Or.inl h
      · exact Or.inr ⟨by omega, h⟩
    clear hc h9 e9
    rcases hc' with h1 | ⟨h1, h2⟩
    all_goals
      go_enter Tryz.func14, Tryz.ntmps14
      go_wp2_with (first | (go_at_call 36; refine HO.out.mono ?_; rintro e w' ⟨rfl, hw⟩; rw [hw]; clear hw w'))
      go_ret
      exact ⟨rfl, rfl⟩
  · have e9 : (l.ng.au.st == 9) = false := by simpa using h9
    rw [e9] at HO
    clear hc h9 e9
    go_enter Tryz.func14, Tryz.ntmps14
    go_wp2_with (first | (go_at_call 36; refine HO.out.mono ?_; rintro e w' ⟨rfl, hw⟩; rw [hw]; clear hw w'))
    go_ret
    exact ⟨rfl, rfl⟩

def rejL (l : Lp) (x : Int) (s : ByteArray) : Lp × List Pk0 := ({ l with ng := { l.ng with id := nextId l.ng.id } }, [⟨8, nextId l.ng.id, [], numF x 2 ++ s.extract 0 (min s.size 1486)⟩])
set_option maxHeartbeats 2000000 in
set_option maxRecDepth 100000 in
theorem reject_yes {base b : Nat} {m : Lm} {l : Lp} (x : Int) (s : ByteArray) (w : World) (h : LcpIn w base b m l) (h9 : l.ng.au.st = 9) (h1 : 0 ≤ x) (h2 : x ≤ 65535) :
    Calls Tryz.prog 14 #[.pointer (some ⟨b, 0, none⟩), .int .i64 x, .string s] w fun e w' => ∃ vo, e = .returned vo ∧ LSent w w' base b m (rejL l x s) vo := by
  have HO := hid (isOpened_any w h)
  rw [show (l.ng.au.st == 9) = true from by simp [h9]] at HO
  have HI := hid (nextId_any w h.neg)
  have HP := hid (fun W => put_any x 2 (by decide) (by decide) W)
  simp only [Int.cast_ofNat_Int] at HP
  have c0 := h.c0
  have H := hid h
  have j7 := first_at s (min s.size 1486) (Nat.min_le_left _ _) (min (s.size : Int) 1486) (by omega)
  have hX : (s.extract 0 (min s.size 1486)).size ≤ 1486 := by rw [ByteArray.size_extract]; omega
  have hS := numF_size x 2
  unfold rejL
  generalize s.extract 0 (min s.size 1486) = X at *
  generalize numF x 2 = S at *
  generalize nextId l.ng.id = I at *
  clear h h9
  go_enter Tryz.func14, Tryz.ntmps14
  go_wp2_with (first | (go_at_call 36; refine HO.out.mono ?_; rintro e w' ⟨rfl, hw⟩; rw [hw]; clear hw w'))
  refine HI.out.mono ?_
  rintro e w1 ⟨rfl, hn⟩
  have N1 := hid (H.out.ofNeg hn)
  clear hn
  go_wp2_with fail
  refine (HP.out _).mono ?_
  rintro e w2 ⟨rfl, hk⟩
  have N2 := hid (N1.out.then0 hk)
  clear hk
  go_wp2
  go_ret
  exact ⟨_, rfl, lsent_told N2.out _ _ _⟩
end Go.Proofs.YtklapjfljffahaaGreat

namespace Go.Proofs.YtklapjfljffahaaGreat
open Go.RowKit

def lR0 : Lp := newL cA [] 0
def lR1 : Lp := adoptL lR0 oA []
theorem lR0_st : lR0.ng.au.st = 0 := by kernel_rfl
theorem lR1_st : lR1.ng.au.st = 9 := by kernel_rfl
theorem errA : errF oA [] = 0 := by kernel_rfl
theorem fineA : FineO oA := by rw [← askA]; exact ask_fine cA
theorem below_kept {w w' : World} (h : Kept (fun _ => False) w w') : Below w.heap.size w w' := h.below (Nat.le_refl _) (fun _ f => f.elim)

/-- The adopt of the laws' own options. -/
theorem adoptA {w W : World} {b : Nat} {m : Lm} {l : Lp} {va : Value} {base' : Nat} (h : LMine w W b m l) (h0 : l.ng.au.st = 0) (ha : OwnO W base' va oA) :
    Calls Tryz.prog 18 #[.pointer (some ⟨b, 0, none⟩), va, .slice none 0 0] W fun e w' => e = .returned (.int .i64 0) ∧ ∃ m', LMine w w' b m' (adoptL l oA []) :=
  (lcpAdopt_any va (.slice none 0 0) oA [] W h.lcp h0 ha.at (OptsAt.nil W) fineA fineNil errA).mono fun _ _ ⟨h1, m', h2⟩ => ⟨h1, m', h.next h2⟩
end Go.Proofs.YtklapjfljffahaaGreat

namespace Go.Proofs.YtklapjfljffahaaGreat
open Go.RowKit

def upsL (l : Lp) : Lp := if l.ng.ups != l.ups then { l with ups := l.ng.ups, ticks := 0 } else l
def openL (l : Lp) : Lp × List Pk0 :=
  if (upsL l).ticks + 1 < (upsL l).echo then ({ upsL l with ticks := (upsL l).ticks + 1 }, [])
  else if 3 ≤ (upsL l).missed then doL { upsL l with ticks := 0 } 3
  else ({ upsL l with ticks := 0, missed := (upsL l).missed + 1, ng := { (upsL l).ng with id := nextId (upsL l).ng.id } }, [⟨9, nextId (upsL l).ng.id, [], numF (upsL l).magic 4⟩])

theorem upsL_ng (l : Lp) : (upsL l).ng = l.ng := by unfold upsL; split <;> rfl

set_option maxHeartbeats 8000000 in
set_option maxRecDepth 100000 in
theorem tickOpened_any {base b : Nat} {m : Lm} {l : Lp} (w : World) (h : LcpIn w base b m l) (hT : l.ticks < l.echo) :
    Calls Tryz.prog 39 #[.pointer (some ⟨b, 0, none⟩)] w fun e w' => ∃ vo, e = .returned vo ∧ LSent w w' base b m (openL l) vo := by
  have c0 := h.c0
  have HU := hid (ngUps_any w h.neg)
  have H := hid h
  have HR : Hid (openL l = if (upsL l).ticks + 1 < (upsL l).echo then ({ upsL l with ticks := (upsL l).ticks + 1 }, []) else if 3 ≤ (upsL l).missed then doL { upsL l with ticks := 0 } 3 else ({ upsL l with ticks := 0, missed := (upsL l).missed + 1, ng := { (upsL l).ng with id := nextId (upsL l).ng.id } }, [⟨9, nextId (upsL l).ng.id, [], numF (upsL l).magic 4⟩])) := rfl
  have HL : Hid (upsL l = if l.ng.ups != l.ups then { l with ups := l.ng.ups, ticks := 0 } else l) := rfl
  have HT : Hid ((upsL l).ticks < (upsL l).echo ∧ (upsL l).echo ≤ 100 ∧ 0 ≤ (upsL l).ticks) := by
    show _ ∧ _ ∧ _
    have g := h.good
    have := g.ticks
    have := g.echo
    unfold upsL
    split
    · exact ⟨by simp only; omega, by simp only; omega, by simp⟩
    · exact ⟨hT, by omega, by omega⟩
  clear h hT
  generalize openL l = R at *
  generalize upsL l = L at *
  go_enter Tryz.func39, Tryz.ntmps39
  go_wp2_with fail
  refine HU.out.mono ?_
  rintro e w1 ⟨rfl, hk1⟩
  have N1 := hid (LNext.of0 H.out hk1)
  clear hk1 HU c0
  have c5 := N1.out.lcp.c5
  have f5 := N1.out.lcp.fz 5
  have c6 := N1.out.lcp.c6
  have NA := hid (N1.out.lcp.set (l' := { l with ups := l.ng.ups }) 5 (.int .i64 l.ng.ups) rfl (by have g := H.out.good; exact ⟨g.mag, g.loops, g.echo, H.out.neg.good.ups, g.ticks, g.missed⟩) rfl rfl rfl)
  have f6 := NA.out.lcp.fz 6
  have d6 := NA.out.lcp.c6
  have NB := hid (NA.out.lcp.set (l' := { l with ups := l.ng.ups, ticks := 0 }) 6 (.int .i64 0) rfl (by have g := H.out.good; exact ⟨g.mag, g.loops, g.echo, H.out.neg.good.ups, ⟨by simp, by simp⟩, g.missed⟩) rfl rfl rfl)
  cases hq : (l.ng.ups != l.ups)
  case' false =>
    simp only [hq, Bool.false_eq_true, if_false] at HL
    go_upto_region 4 with fail
    have N2 : Hid (LNext w w1 base b m m L) := by rw [HL.out]; exact N1.out
  case' true =>
    simp only [hq, if_true] at HL
    go_upto_region 4 with fail
    have N2 : Hid (LNext w ((w1.setCell ⟨b, 5, none⟩ (.int .i64 l.ng.ups)).setCell ⟨b, 6, none⟩ (.int .i64 0)) base b m m L) := by rw [HL.out]; exact (N1.out.trans NA.out).trans NB.out
    generalize (w1.setCell ⟨b, 5, none⟩ (.int .i64 l.ng.ups)).setCell ⟨b, 6, none⟩ (.int .i64 0) = w1 at *
  all_goals
    clear c5 f5 c6 NA f6 d6 NB N1 HL hq
    obtain ⟨hT1, hT2, hT3⟩ := HT.out
    have c6 := N2.out.lcp.c6
    have f6 := N2.out.lcp.fz 6
    have hw6 : IntKind.i64.wrap (L.ticks + 1) = L.ticks + 1 := by rw [IntKind.wrap_i64]; omega
    have N3 := hid (N2.out.trans (N2.out.lcp.set (l' := { L with ticks := L.ticks + 1 }) 6 (.int .i64 (L.ticks + 1)) rfl (by have g := N2.out.lcp.good; exact ⟨g.mag, g.loops, g.echo, g.ups, ⟨by simp only; omega, by simp only; omega⟩, g.missed⟩) rfl rfl rfl))
    go_upto_region 5 with fail
    generalize w1.setCell ⟨b, 6, none⟩ (.int .i64 (L.ticks + 1)) = w3 at *
    clear c6 f6 hw6 N2
    have c6 := N3.out.lcp.c6
    have c4 := N3.out.lcp.c4
    simp only at c6 c4
    by_cases ht : L.ticks + 1 < L.echo
    · rw [if_pos ht] at HR
      go_wp2
      go_quiet (fail)
      go_wp2
      go_ret
      exact ⟨_, rfl, by rw [HR.out]; exact LSent.none (N3.out.then0 ((Kept.refl _ _).drewN _))⟩
    · rw [if_neg ht] at HR
      go_wp2
      go_quiet (fail)
      rename_i nq
      go_upto_region 7 with fail
      have N4 := hid (N3.out.then0 ((Kept.refl (fun _ => False) w3).drewN nq))
      clear c6 c4 N3
      generalize w3.drewN nq = w4 at *
      have c6 := N4.out.lcp.c6
      have f6 := N4.out.lcp.fz 6
      have N5 := hid (N4.out.trans (N4.out.lcp.set (l' := { L with ticks := 0 }) 6 (.int .i64 0) rfl (by have g := N4.out.lcp.good; exact ⟨g.mag, g.loops, g.echo, g.ups, ⟨by simp, by simp⟩, g.missed⟩) rfl rfl rfl))
      clear N4
      go_upto_region 8 with fail
      generalize w4.setCell ⟨b, 6, none⟩ (.int .i64 0) = w5 at *
      clear c6 f6
      have c7 := N5.out.lcp.c7
      have f7 := N5.out.lcp.fz 7
      have c0 := N5.out.lcp.c0
      simp only at c7 c0
      by_cases hm : 3 ≤ L.missed
      · rw [if_pos hm] at HR
        have HD := hid (ngDo_any 3 w5 N5.out.lcp.neg)
        go_wp2_with fail
        refine HD.out.mono ?_
        rintro e w6 ⟨vo, rfl, S⟩
        obtain ⟨po, co, rfl⟩ := S.slice
        have HS := hid (LSent.before N5.out (N5.out.lcp.sent S))
        clear S
        go_wp2
        go_ret
        exact ⟨_, rfl, by rw [HR.out]; exact HS.out⟩
      · rw [if_neg hm] at HR
        have hw7 : IntKind.i64.wrap (L.missed + 1) = L.missed + 1 := by rw [IntKind.wrap_i64]; have := N5.out.lcp.good.missed; simp only at this; omega
        have N6 := hid (N5.out.trans (N5.out.lcp.set (l' := { L with ticks := 0, missed := L.missed + 1 }) 7 (.int .i64 (L.missed + 1)) rfl (by have g := N5.out.lcp.good; have := g.missed; simp only at this; exact ⟨g.mag, g.loops, g.echo, g.ups, g.ticks, ⟨by simp only; omega, by simp only; omega⟩⟩) rfl rfl rfl))
        clear N5
        go_upto_region 11 with fail
        generalize w5.setCell ⟨b, 7, none⟩ (.int .i64 (L.missed + 1)) = w6 at *
        clear c7 f7 c0 hw7
        have c0 := N6.out.lcp.c0
        have HI := hid (nextId_any w6 N6.out.lcp.neg)
        simp only at c0 HI
        go_wp2_with fail
        refine HI.out.mono ?_
        rintro e w7 ⟨rfl, hn⟩
        have N7 := hid (N6.out.trans (N6.out.lcp.ofNeg hn))
        have HSg := hid (sign_any w7 N7.out.lcp)
        simp only at HSg
        clear hn HI c0
        go_wp2_with fail
        refine HSg.out.mono ?_
        rintro e w8 ⟨rfl, hk8⟩
        have N8 := hid (N7.out.then0 hk8)
        clear hk8
        go_wp2
        go_ret
        exact ⟨_, rfl, by rw [HR.out]; exact lsent_told N8.out _ _ _⟩

set_option maxHeartbeats 2000000 in
set_option maxRecDepth 100000 in
/-- A tick where nothing is waited for. -/
theorem ngTick_idle {base b : Nat} {a : Nm} {n : Ng} (w : World) (h : NegIn w base b a n) (hq : waitsF n.au = false) :
    Calls Tryz.prog 38 #[.pointer (some ⟨b, 0, none⟩)] w fun e w' => e = .returned (.slice none 0 0) ∧ w' = w := by
  have HN := hid (ngNone_any w h)
  have HW := hid (waits_any a.am n.au h.good.au w h.auto)
  have n0 := h.n0
  rw [hq] at HW
  clear h
  go_enter Tryz.func38, Tryz.ntmps38
  go_wp2_with (first
    | (go_at_call 55; refine HN.out.mono ?_; rintro e w' ⟨rfl, hw⟩; rw [hw]; clear hw w')
    | (go_at_call 67; refine HW.out.mono ?_; rintro e w' ⟨rfl, hw⟩; rw [hw]; clear hw w'))
  go_ret
  exact ⟨rfl, rfl⟩

def tickL (l : Lp) : Lp × List Pk0 := ({ l with ng := (tickN l.ng).1 }, (tickN l.ng).2)
set_option maxHeartbeats 2000000 in
set_option maxRecDepth 100000 in
/-- A tick of a link that is not opened, and does not open by it. -/
theorem lcpTick_shut {base b : Nat} {m : Lm} {l : Lp} (w : World) (h : LcpIn w base b m l) (ht : l.ng.ticks < l.ng.wait) (hs : ¬ (tickN l.ng).1.au.st = 9) :
    Calls Tryz.prog 13 #[.pointer (some ⟨b, 0, none⟩)] w fun e w' => ∃ vo, e = .returned vo ∧ LSent w w' base b m (tickL l) vo := by
  have HN := hid (negotiation_any w h)
  have HT := hid (ngTick_any w h.neg ht)
  have H := hid h
  have HS9 := hid hs
  unfold tickL
  clear h ht hs
  generalize tickN l.ng = D at *
  go_enter Tryz.func13, Tryz.ntmps13
  go_wp2_with (first | (go_at_call 31; refine HN.out.mono ?_; rintro e w' ⟨rfl, hw⟩; rw [hw]; clear hw w'))
  refine HT.out.mono ?_
  rintro e w1 ⟨vo, rfl, S⟩
  obtain ⟨po, co, rfl⟩ := S.slice
  have HS := hid (H.out.sent S)
  obtain ⟨m1, q1, hs1, _⟩ := HS.out
  have HO := hid (isOpened_any w1 hs1.nx.lcp)
  rw [show (({ l with ng := D.1 } : Lp).ng.au.st == 9) = false from by simpa using HS9.out] at HO
  clear S hs1 HN HT
  go_wp2_with (first | (go_at_call 36; refine HO.out.mono ?_; rintro e w' ⟨rfl, hw⟩; rw [hw]; clear hw w'))
  go_ret
  exact ⟨_, rfl, HS.out⟩
end Go.Proofs.YtklapjfljffahaaGreat

namespace Go.Proofs.YtklapjfljffahaaGreat
open Go.RowKit

theorem rowP_one' {W : World} {base : Nat} {q : List (Pk0 × Value)} (h : ∀ p ∈ q, OwnO W base p.2 p.1.opts) : ∀ u ∈ rowP q, u.oneCell' = true := by
  intro u hu
  unfold rowP at hu
  obtain ⟨p, hp, hu⟩ := List.mem_flatMap.1 hu
  obtain ⟨a, c, e⟩ := slice_of (h p hp)
  simp only [pkCells, List.mem_cons, List.not_mem_nil, or_false] at hu
  rcases hu with rfl | rfl | rfl | rfl
  · rfl
  · rfl
  · rw [e]; rfl
  · rfl
theorem appendP {W W' : World} {base b : Nat} {m : Lm} {s : Lp × List Pk0} {vo : Value} (h : LSent W W' base b m s vo) (hn : s.2.length ≤ 1000) :
    ∃ v' w', AppP W' (.slice none 0 0) vo v' w' ∧ LSent W w' base b m s v' := by
  obtain ⟨m', q, hs, e⟩ := h
  obtain ⟨i0, hi0, hz0, hz1, hz2⟩ := info_parts infoPk
  have hl : q.length = s.2.length := by rw [← e, List.length_map]
  rcases hs.row.2 with ⟨rfl, h0⟩ | ⟨g, cap, cur, rfl, hb, hg, h1, h2, h3, h4⟩
  · have hq : q = [] := List.eq_nil_of_length_eq_zero (by simpa using h0)
    subst hq
    refine ⟨.slice none 0 0, W', fun ty => ?_, m', [], hs, e⟩
    exact run_append_nothing W' _ _ _ _ i0 Tryz.underlying33 hi0 none 0 0 (Nat.le_refl _) _ (Src.ofNil W' Tryz.underlying33 0)
  · by_cases hq : q = []
    · subst hq
      refine ⟨.slice none 0 0, W', fun ty => ?_, m', [], ⟨hs.nx, World.ownsRow_nil _ _ _ _, fun _ hp => absurd hp List.not_mem_nil, fun _ hp => absurd hp List.not_mem_nil⟩, e⟩
      exact run_append_nothing W' _ _ _ _ i0 Tryz.underlying33 hi0 none 0 0 (Nat.le_refl _) _ (Src.ofSlice W' Tryz.underlying33 ⟨g, 0, none⟩ 0 cap [] (by simp) (fun j u hj => by simp at hj) (fun u hu => by simp at hu))
    · have hpos : 0 < q.length := List.length_pos_iff.2 hq
      have hcells : ∀ (j : Nat) (u : Value), (rowP q)[j]? = some u → W'.cell? ((⟨g, 0, none⟩ : Addr).add j) = some u := fun j u hj => by
        have ha : (⟨g, 0, none⟩ : Addr).add j = ⟨g, j, none⟩ := by
          unfold Addr.add
          split <;> simp_all
        have hlt := (List.getElem?_eq_some_iff.1 hj).1
        rw [rowP_length] at hlt
        rw [ha, ← hj, ← h4, List.getElem?_take_of_lt (by omega)]
        simp [World.cell?, hg]
      obtain ⟨v', w', r1, r2, r3⟩ := owned_append (P := Tryz.prog) Tryz.underlying33 hi0 hz0 hz1 hz2 rfl (by decide) (World.ownsRow_nil W' W.heap.size 24 4) hs.nx.kept.size ⟨g, 0, none⟩ q.length cap (rowP q) hpos (rowP_length q) hcells (rowP_one' hs.opts) (by omega) (by decide)
      have hk : Kept (fun _ => False) W' w' := by
        rcases r3 with ⟨g', cap', e1, _, _⟩ | ⟨cap', _, hk, _⟩
        · cases e1
        · exact hk
      refine ⟨v', w', r1, m', q, ⟨hs.nx.then0 hk, by simpa using r2, fun p hp => (hs.opts p hp).kept hk, hs.far⟩, e⟩

/-- What Close does in Opened. -/
theorem close_open (n : Ng) (h : n.au.st = 9) : (doN n 3).1.au.st = 4 ∧ (doN n 3).1.ticks = 0 ∧ (doN n 3).1.wait = n.wait ∧ (doN n 3).2 = [⟨5, nextId n.id, [], ⟨#[]⟩⟩] := by
  obtain ⟨⟨cf, tm, st, ct⟩, req, own, peer, fails, wait, id, last, begun, naks, ticks, mine, theirs, ups, downs⟩ := n
  have h : st = 9 := h
  subst h
  exact ⟨by kernel_rfl, by kernel_rfl, by kernel_rfl, by kernel_rfl⟩
theorem openL_short (l : Lp) (h : l.ng.au.st = 9) : (openL l).2.length ≤ 1000 := by
  unfold openL
  split
  · simp
  · split
    · unfold doL
      rw [(close_open _ (by simp only [upsL_ng]; exact h)).2.2.2]
      simp
    · simp

set_option maxHeartbeats 2000000 in
set_option maxRecDepth 100000 in
theorem lcpTick_open {base b : Nat} {m : Lm} {l : Lp} (w : World) (h : LcpIn w base b m l) (h9 : l.ng.au.st = 9) (he : l.echo ≠ 0) (hT : l.ticks < l.echo) :
    Calls Tryz.prog 13 #[.pointer (some ⟨b, 0, none⟩)] w fun e w' => ∃ vo, e = .returned vo ∧ LSent w w' base b m (openL l) vo := by
  have HN := hid (negotiation_any w h)
  have HT := hid (ngTick_idle w h.neg (by unfold waitsF; rw [h9]; rfl))
  have HO := hid (isOpened_any w h)
  rw [show (l.ng.au.st == 9) = true from by simp [h9]] at HO
  have c4 := h.c4
  have hez : (l.echo == 0) = false := by simpa using he
  have HTo := hid (tickOpened_any w h hT)
  have HSh := hid (openL_short l h9)
  clear h h9 he hT
  generalize openL l = R at *
  go_enter Tryz.func13, Tryz.ntmps13
  go_wp2_with (first
    | (go_at_call 31; refine HN.out.mono ?_; rintro e w' ⟨rfl, hw⟩; rw [hw]; clear hw w')
    | (go_at_call 38; refine HT.out.mono ?_; rintro e w' ⟨rfl, hw⟩; rw [hw]; clear hw w')
    | (go_at_call 36; refine HO.out.mono ?_; rintro e w' ⟨rfl, hw⟩; rw [hw]; clear hw w'))
  refine HTo.out.mono ?_
  rintro e w1 ⟨vo, rfl, S⟩
  obtain ⟨v', w2, hr, S2⟩ := appendP S HSh.out
  obtain ⟨po, co, rfl⟩ := S.slice
  obtain ⟨pv, cv, rfl⟩ := S2.slice
  have HS := hid S2
  unfold AppP at hr
  clear S S2
  go_wp2_with (at_builtin; refine Lib.wpList_append_run _ rfl _ _ _ _ rfl _ _ rfl rfl _ _ (hr _) ?_)
  go_ret
  exact ⟨_, rfl, HS.out⟩
end Go.Proofs.YtklapjfljffahaaGreat

namespace Go.Proofs.YtklapjfljffahaaGreat
open Go.RowKit

set_option maxHeartbeats 4000000 in
set_option maxRecDepth 100000 in
theorem lcpTake_rep {base b : Nat} {m : Lm} {l : Lp} (id : Int) (w : World) (h : LcpIn w base b m l) (h9 : l.ng.au.st = 9) :
    Calls Tryz.prog 12 #[.pointer (some ⟨b, 0, none⟩), .agg #[.int .i64 10, .int .i64 id, .slice none 0 0, .string ⟨#[]⟩]] w fun e w' => e = .returned (.slice none 0 0) ∧ LNext w w' base b m m { l with missed := 0 } := by
  have hk0 := (Kept.refl (fun _ => False) w).alloc (.cells #[.int .i64 10, .int .i64 id, .slice none 0 0, .string ⟨#[]⟩] 24)
  have O0 := hid (own4_new w 24 (.int .i64 10) (.int .i64 id) (.slice none 0 0) (.string ⟨#[]⟩))
  have hA0 := h.kept0 hk0
  have HN := hid (negotiation_any _ hA0)
  have HO := hid (isOpened_any _ hA0)
  rw [show (l.ng.au.st == 9) = true from by simp [h9]] at HO
  have HE := eqNegSome ⟨m.nb, 0, none⟩
  have NS := hid ((LNext.of0 h hk0).trans (hA0.set (l' := { l with missed := 0 }) 7 (.int .i64 0) rfl (by have g := h.good; exact ⟨g.mag, g.loops, g.echo, g.ups, g.ticks, ⟨by simp, by simp⟩⟩) rfl rfl rfl))
  have c7 := hA0.c7
  have f7 := hA0.fz 7
  generalize hA : w.alloc (.cells #[.int .i64 10, .int .i64 id, .slice none 0 0, .string ⟨#[]⟩] 24) = A at *
  have HA := hid hA
  obtain ⟨⟨q0, q1, q2, q3⟩, _⟩ := O0.out
  clear hA h hk0 hA0 h9
  go_enter Tryz.func12, Tryz.ntmps12
  go_upto_region 1 with fail
  rw [HA.out]
  clear HA
  go_wp2_with (first
    | (go_at_call 31; refine HN.out.mono ?_; rintro e w' ⟨rfl, hw⟩; rw [hw]; clear hw w')
    | (go_at_call 36; refine HO.out.mono ?_; rintro e w' ⟨rfl, hw⟩; rw [hw]; clear hw w'))
  go_ret
  exact ⟨rfl, NS.out⟩

/-- How far a link has come behind i ticks: opened, or closed behind three echoes that nobody answered. -/
structure EchO (e : Nat) (ans : Bool) (q r : Nat) (asked : Nat) (l : Lp) : Prop where
  st : l.ng.au.st = 9
  ticks : l.ticks = (r : Int)
  ups : l.ups = l.ng.ups ∨ r = 0
  asked : asked = q
  miss : l.missed = if ans then 0 else (q : Int)
  low : ans = true ∨ q ≤ 3
structure EchS (asked : Nat) (ans : Bool) (l : Lp) : Prop where
  ans : ans = false
  asked : asked = 3
  st : l.ng.au.st = 2 ∨ l.ng.au.st = 4
  ticks : l.ng.ticks < 3
def Ech (e : Nat) (ans : Bool) (i asked : Nat) (l : Lp) : Prop := l.echo = (e : Int) ∧ l.ng.wait = 3 ∧ ∃ q r : Nat, i = e * q + r ∧ r < e ∧ (EchO e ans q r asked l ∨ (4 ≤ q ∧ EchS asked ans l))

/-- What a tick sends, and what becomes of it. -/
structure OneP (e : Nat) (ans : Bool) (i asked : Nat) (l : Lp) (p : Pk0) : Prop where
  no : ¬ p.code = 9 → Ech e ans (i + 1) asked l
  still : p.code = 9 → ans = false → Ech e ans (i + 1) (asked + 1) l
  said : p.code = 9 → ans = true → l.ng.au.st = 9 ∧ Ech e ans (i + 1) (asked + 1) { l with missed := 0 }
def TickR (e : Nat) (ans : Bool) (i asked : Nat) (s : Lp × List Pk0) : Prop := (s.2 = [] ∧ Ech e ans (i + 1) asked s.1) ∨ ∃ p, s.2 = [p] ∧ OneP e ans i asked s.1 p

theorem tick_shut (n : Ng) (h : n.au.st = 2 ∨ n.au.st = 4) (ht : n.ticks < 3) (hw : n.wait = 3) : ((tickN n).1.au.st = 2 ∨ (tickN n).1.au.st = 4) ∧ (tickN n).1.ticks < 3 ∧ (tickN n).1.wait = 3 ∧ ((tickN n).2 = [] ∨ ∃ p : Pk0, (tickN n).2 = [p] ∧ p.code = 5) := by
  rcases h with h | h
  · have e : tickN n = (n, []) := by
      unfold tickN
      rw [if_pos (by unfold waitsF; rw [h]; rfl)]
    rw [e]
    exact ⟨Or.inl h, ht, hw, Or.inl rfl⟩
  · have hq : ¬ waitsF n.au = false := by unfold waitsF; rw [h]; decide
    unfold tickN
    rw [if_neg hq]
    by_cases h1 : n.ticks + 1 < n.wait
    · rw [if_pos h1]
      exact ⟨Or.inr h, by simp only; omega, hw, Or.inl rfl⟩
    · rw [if_neg h1]
      obtain ⟨⟨cf, tm, st, ct⟩, req, own, peer, fails, wait, id, last, begun, naks, ticks, mine, theirs, ups, downs⟩ := n
      have h : st = 4 := h
      have hw : wait = 3 := hw
      subst h hw
      by_cases hc : 0 < ct
      · have e : timeF ⟨cf, tm, 4, ct⟩ = doF ⟨cf, tm, 4, ct⟩ 4 := by
          unfold timeF
          rw [if_pos (by rfl), if_pos hc]
        simp only
        rw [e]
        exact ⟨Or.inr (by kernel_rfl), by show ((0 : Int) < 3); decide, by kernel_rfl, Or.inr ⟨⟨5, nextId id, [], ⟨#[]⟩⟩, by kernel_rfl, rfl⟩⟩
      · have e : timeF ⟨cf, tm, 4, ct⟩ = doF ⟨cf, tm, 4, ct⟩ 5 := by
          unfold timeF
          rw [if_pos (by rfl), if_neg hc]
        simp only
        rw [e]
        exact ⟨Or.inl (by kernel_rfl), by show ((0 : Int) < 3); decide, by kernel_rfl, Or.inl (by kernel_rfl)⟩

theorem ech_shut {e : Nat} {ans : Bool} {i asked q r : Nat} {l : Lp} (h1 : l.echo = (e : Int)) (h2 : l.ng.wait = 3) (hi : i = e * q + r) (hr : r < e) (hq : 4 ≤ q) (h : EchS asked ans l) :
    l.ng.ticks < l.ng.wait ∧ ¬ (tickN l.ng).1.au.st = 9 ∧ TickR e ans i asked (tickL l) := by
  obtain ⟨t1, t2, t3, t4⟩ := tick_shut l.ng h.st h.ticks h2
  have hE : ∀ l' : Lp, l'.echo = l.echo → l'.ng = (tickN l.ng).1 → Ech e ans (i + 1) asked l' := fun l' e1 e2 => by
    refine ⟨by rw [e1]; exact h1, by rw [e2]; exact t3, ?_⟩
    have hs : EchS asked ans l' := ⟨h.ans, h.asked, by rw [e2]; exact t1, by rw [e2]; exact t2⟩
    by_cases hl : r + 1 < e
    · exact ⟨q, r + 1, by omega, hl, Or.inr ⟨hq, hs⟩⟩
    · exact ⟨q + 1, 0, by rw [Nat.mul_succ]; omega, by omega, Or.inr ⟨by omega, hs⟩⟩
  refine ⟨by rw [h2]; exact h.ticks, by omega, ?_⟩
  rcases t4 with t4 | ⟨p, t4, t5⟩
  · exact Or.inl ⟨t4, hE _ rfl rfl⟩
  · exact Or.inr ⟨p, t4, ⟨fun _ => hE _ rfl rfl, fun e => absurd e (by omega), fun e => absurd e (by omega)⟩⟩

theorem ech_open {e : Nat} {ans : Bool} {i asked q r : Nat} {l : Lp} (h1 : l.echo = (e : Int)) (h2 : l.ng.wait = 3) (hi : i = e * q + r) (hr : r < e) (h : EchO e ans q r asked l) : TickR e ans i asked (openL l) := by
  have ha1 : (upsL l).echo = (e : Int) := by unfold upsL; split <;> exact h1
  have ha2 : (upsL l).ticks = (r : Int) := by
    unfold upsL
    split
    · rename_i hq
      rcases h.ups with h3 | h3
      · rw [h3] at hq
        simp at hq
      · simp [h3]
    · exact h.ticks
  have ha3 : (upsL l).ups = (upsL l).ng.ups := by
    unfold upsL
    split
    · rfl
    · rename_i hq
      simpa using Eq.symm (by simpa using hq : l.ng.ups = l.ups)
  have ha4 : (upsL l).missed = l.missed := by unfold upsL; split <;> rfl
  have ha5 : (upsL l).ng = l.ng := upsL_ng l
  unfold openL
  rw [ha2, ha1]
  by_cases hl : (r : Int) + 1 < (e : Int)
  · rw [if_pos hl]
    exact Or.inl ⟨rfl, ha1, by rw [ha5]; exact h2, q, r + 1, by omega, by omega, Or.inl ⟨by rw [ha5]; exact h.st, by simp, Or.inl ha3, h.asked, by rw [ha4]; exact h.miss, h.low⟩⟩
  · rw [if_neg hl]
    have hre : r + 1 = e := by omega
    by_cases hm : 3 ≤ (upsL l).missed
    · rw [if_pos hm]
      have hans : ans = false := by
        cases ans with
        | false => rfl
        | true =>
          rw [ha4, h.miss] at hm
          simp at hm
      have hq3 : q = 3 := by
        rw [ha4, h.miss, hans] at hm
        simp only [Bool.false_eq_true, if_false] at hm
        rcases h.low with h3 | h3
        · rw [hans] at h3; cases h3
        · omega
      obtain ⟨c1, c2, c3, c4⟩ := close_open ({ upsL l with ticks := 0 } : Lp).ng (by simp only [ha5]; exact h.st)
      refine Or.inr ⟨_, c4, ⟨fun _ => ⟨ha1, ?_, q + 1, 0, by rw [Nat.mul_succ]; omega, by omega, Or.inr ⟨by omega, hans, by rw [h.asked, hq3], Or.inr c1, by show (doN _ 3).1.ticks < 3; rw [c2]; decide⟩⟩, fun e => absurd e (by simp), fun e => absurd e (by simp)⟩⟩
      show (doN _ 3).1.wait = 3
      rw [c3]
      simp only [ha5]
      exact h2
    · rw [if_neg hm]
      have hq2 : ans = true ∨ q + 1 ≤ 3 := by
        cases ans with
        | true => exact Or.inl rfl
        | false =>
          rw [ha4, h.miss] at hm
          simp only [Bool.false_eq_true, if_false] at hm
          exact Or.inr (by omega)
      refine Or.inr ⟨_, rfl, ⟨fun e => absurd rfl e, fun _ hans => ?_, fun _ hans => ⟨by simp only [ha5]; exact h.st, ?_⟩⟩⟩
      · exact ⟨ha1, by simp only [ha5]; exact h2, q + 1, 0, by rw [Nat.mul_succ]; omega, by omega, Or.inl ⟨by simp only [ha5]; exact h.st, rfl, Or.inl ha3, by rw [h.asked], by simp only [ha4, h.miss, hans]; simp, hq2⟩⟩
      · exact ⟨ha1, by simp only [ha5]; exact h2, q + 1, 0, by rw [Nat.mul_succ]; omega, by omega, Or.inl ⟨by simp only [ha5]; exact h.st, rfl, Or.inl ha3, by rw [h.asked], by simp only [hans]; simp, hq2⟩⟩
end Go.Proofs.YtklapjfljffahaaGreat
