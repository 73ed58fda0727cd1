/- The contract of Tick. -/
import Derived.Test.YtklapjfljffahaaGreatNgDo
import Derived.Test.YtklapjfljffahaaGreatAuTime
namespace Go.Proofs.YtklapjfljffahaaGreat
open Go.RowKit

def tickN (n : Ng) : Ng × List Pk0 :=
  if waitsF n.au = false then (n, []) else if n.ticks + 1 < n.wait then ({ n with ticks := n.ticks + 1 }, []) else actsF (un n) { n with ticks := 0, au := (timeF n.au).2 } (timeF n.au).1

theorem timeF_short (c : Au) : (timeF c).1.length ≤ 100 := by
  unfold timeF
  split
  · split
    · have := next_short c.st 4
      unfold doF
      simp only
      omega
    · have := next_short c.st 5
      unfold doF
      simp only
      omega
  · exact Nat.zero_le _

set_option maxHeartbeats 4000000 in
set_option maxRecDepth 100000 in
theorem ngTick_any {base b : Nat} {a : Nm} {n : Ng} (w : World) (h : NegIn w base b a n) (ht : n.ticks < n.wait) :
    Calls Tryz.prog 38 #[.pointer (some ⟨b, 0, none⟩)] w fun e w' => ∃ vo, e = .returned vo ∧ Sent w w' base b a (tickN n) vo := by
  have HN := hid (ngNone_any w h)
  have HW := hid (waits_any a.am n.au h.good.au w h.auto)
  have n0 := h.n0
  have n6 := h.n6
  have n11 := h.n11
  have f11 := h.fz 11
  have H := hid h
  have g := h.good
  unfold tickN
  clear h
  cases hq : waitsF n.au with
  | false =>
    rw [hq] at HW
    rw [if_pos rfl]
    go_enter Tryz.func38, Tryz.ntmps38
    go_wp2_with (first
      | (go_at_call 55; refine HN.out.mono ?_; rintro e w' ⟨rfl, hw⟩; rw [hw]; clear hw w')
      | (go_at_call 67; refine HW.out.mono ?_; rintro e w' ⟨rfl, hw⟩; rw [hw]; clear hw w'))
    go_ret
    exact ⟨_, rfl, Sent.none (NNext.refl H.out)⟩
  | true =>
    rw [hq] at HW
    rw [if_neg (by simp)]
    have hw1 : IntKind.i64.wrap (n.ticks + 1) = n.ticks + 1 := by rw [IntKind.wrap_i64]; have := g.ticks; omega
    have N1 := H.out.set (n' := { n with ticks := n.ticks + 1 }) 11 (.int .i64 (n.ticks + 1)) rfl ⟨g.au, g.fails, g.wait, g.id, g.naks, (by have := g.ticks; have := g.wait; simp only; omega), g.ups, g.downs, g.req, g.mine, g.theirs⟩ rfl rfl rfl rfl rfl rfl
    by_cases hlt : n.ticks + 1 < n.wait
    · rw [if_pos hlt]
      have HN1 := hid N1
      clear N1 g hq
      go_enter Tryz.func38, Tryz.ntmps38
      go_wp2_with (first
        | (go_at_call 55; refine HN.out.mono ?_; rintro e w' ⟨rfl, hw⟩; rw [hw]; clear hw w')
        | (go_at_call 67; refine HW.out.mono ?_; rintro e w' ⟨rfl, hw⟩; rw [hw]; clear hw w'))
      go_region
      go_wp2
      go_ret
      exact ⟨_, rfl, Sent.none (HN1.out.then0 (Kept.refl _ _).drew)⟩
    · rw [if_neg hlt]
      have HN1 := hid N1
      clear N1 hq
      go_enter Tryz.func38, Tryz.ntmps38
      go_wp2_with (first
        | (go_at_call 55; refine HN.out.mono ?_; rintro e w' ⟨rfl, hw⟩; rw [hw]; clear hw w')
        | (go_at_call 67; refine HW.out.mono ?_; rintro e w' ⟨rfl, hw⟩; rw [hw]; clear hw w'))
      go_region
      go_upto_region 6 with fail
      have N2 := hid (HN1.out.then0 ((Kept.refl (fun _ => False) (w.setCell ⟨b, 11, none⟩ (.int .i64 (n.ticks + 1)))).drew))
      clear n0 n6 n11 f11 HN1 HN HW
      generalize (w.setCell ⟨b, 11, none⟩ (.int .i64 (n.ticks + 1))).drew = w2 at *
      have d11 := N2.out.neg.n11
      have f11 := N2.out.neg.fz 11
      have N3 := N2.out.neg.set (n' := { n with ticks := 0 }) 11 (.int .i64 0) rfl ⟨g.au, g.fails, g.wait, g.id, g.naks, ⟨by simp, by simp⟩, g.ups, g.downs, g.req, g.mine, g.theirs⟩ rfl rfl rfl rfl rfl rfl
      have NT := hid (N2.out.trans N3)
      clear N3
      go_upto_region 7 with fail
      generalize w2.setCell ⟨b, 11, none⟩ (.int .i64 0) = w3 at *
      clear d11 f11 N2
      have n0 := NT.out.neg.n0
      have HTm := hid (time_any a.am n.au g.au w3 NT.out.neg.auto)
      go_wp2_with fail
      refine HTm.out.mono ?_
      rintro e w4 ⟨vd, rfl, ha, ho, hk⟩
      have N4 := hid (NT.out.trans (NT.out.neg.step ha (g.au.time) hk))
      have HO := hid ho
      obtain ⟨pd, cd, rfl⟩ := ho.slice
      have HU := hid (unasked_any w4 N4.out.neg)
      unfold czV at HU
      simp only at HU
      clear ha ho hk NT HTm
      go_wp2_with fail
      refine HU.out.mono ?_
      rintro e w5 ⟨rfl, hk⟩
      have N5 := hid (N4.out.then0 hk)
      have HA := hid (act_any (un n) (.slice none 0 0) (.slice none 0 0) _ none (timeF n.au).1 (timeF_short n.au) w5 N5.out.neg (un_at n) (HO.out.kept0 hk))
      unfold czV un at HA
      simp only at HA
      clear hk HU N4 HO
      go_wp2_with fail
      refine HA.out.mono ?_
      rintro e w6 ⟨vo, rfl, vt, l, U⟩
      have HS := hid (Sent.of N5.out U (fun i hi => by cases hi))
      obtain ⟨p, cap, rfl⟩ := slice_of U.out.row
      clear U
      go_wp2
      go_ret
      exact ⟨_, rfl, HS.out⟩
end Go.Proofs.YtklapjfljffahaaGreat
