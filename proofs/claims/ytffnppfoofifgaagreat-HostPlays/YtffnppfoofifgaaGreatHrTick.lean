/- The contract of the document's host: Tick. -/
import Derived.Test.YtffnppfoofifgaaGreatHrIn
namespace Go.Proofs.YtffnppfoofifgaaGreat
open Go.RowKit

theorem tickD_more (h : Hd) (hs : h.state = 1 ∨ h.state = 2) (ht : h.ticks + 1 < h.wait * 2 ^ h.tries.toNat) : tickD h = ([], { h with ticks := h.ticks + 1 }) := by unfold tickD; rw [if_pos hs, if_pos ht]
theorem tickD_end (h : Hd) (hs : h.state = 1 ∨ h.state = 2) (ht : ¬ h.ticks + 1 < h.wait * 2 ^ h.tries.toNat) (hr : h.retry ≤ h.tries) : tickD h = ([], { h with ticks := h.ticks + 1, state := 4 }) := by unfold tickD; rw [if_pos hs, if_neg ht, if_pos hr]
theorem tickD_again (h : Hd) (hs : h.state = 1 ∨ h.state = 2) (ht : ¬ h.ticks + 1 < h.wait * 2 ^ h.tries.toNat) (hr : ¬ h.retry ≤ h.tries) : tickD h = (askD { h with ticks := h.ticks + 1, tries := h.tries + 1 }, { h with ticks := 0, tries := h.tries + 1 }) := by
  unfold tickD
  rw [if_pos hs, if_neg ht, if_neg hr]
  rfl

set_option maxHeartbeats 4000000 in
set_option maxRecDepth 100000 in
theorem rTick_any (b : Nat) (h : Hd) (hg : GoodD h) (ht9 : h.ticks ≤ 1000000) (w : World) (H : HdIn w b h) :
    Calls Tryz.prog 12 #[.pointer (some ⟨b, 0, none⟩)] w fun e w' => ∃ u, e = .returned u ∧ OwnE w' w.heap.size u (tickD h).1 ∧ HdIn w' b (tickD h).2 ∧ Kept (fun i => i = b) w w' := by
  obtain ⟨x0, x1, x2, x3, x4, x5, hx⟩ := six_cells hg.mac
  obtain ⟨y0, y1, y2, y3, y4, y5, hy⟩ := six_cells hg.ac
  have c10 := (H.cells hx hy).c10
  by_cases hs : h.state = 1 ∨ h.state = 2
  · obtain ⟨T, hT⟩ : ∃ T : Nat, h.tries = (T : Int) := ⟨h.tries.toNat, by have := hg.tries.1; omega⟩
    obtain ⟨K, hK⟩ : ∃ K : Nat, h.wait = (K : Int) := ⟨h.wait.toNat, by have := hg.wait.1; omega⟩
    have hT10 : T ≤ 10 := by have := hg.tries.2; have := hg.retry.2; omega
    have hK100 : K ≤ 100 := by have := hg.wait.2; omega
    have hpow : ∀ i, i ≤ T → K * 2 ^ i ≤ 102400 := fun i hi => Nat.mul_le_mul hK100 (pow_le10 (by omega))
    have hTt : h.tries.toNat = T := by omega
    have h20 := hg.ticks.1
    have hw1 : IntKind.i64.wrap (h.ticks + 1) = h.ticks + 1 := by rw [IntKind.wrap_i64]; omega
    have H1 : Hid (HdIn (w.setCell ⟨b, 20, none⟩ (.int .i64 (h.ticks + 1))) b { h with ticks := h.ticks + 1 }) := H.set 20 _ (hd_ticks hg.mac hg.ac _)
    have K1 : Hid (Kept (fun i => i = b) w (w.setCell ⟨b, 20, none⟩ (.int .i64 (h.ticks + 1)))) := (Kept.refl (fun i => i = b) w).setCell (p := ⟨b, 20, none⟩) (Or.inr rfl) _
    have c20 := (H.cells hx hy).c20
    have f20 := H.fz 20
    have HX := hid (And.intro hx hy)
    have HTT := hid hT
    have HKK := hid hK
    have HTo := hid hTt
    have hwr : IntKind.i64.wrap (h.tries + 1) = h.tries + 1 := by rw [IntKind.wrap_i64]; omega
    have HG := hid hg
    have HPW := hid hpow
    have HSS := hid hs
    generalize hR : tickD h = R
    have HR := hid hR
    have s1 : (h.state == 1) = true ∨ (h.state == 1) = false ∧ (h.state == 2) = true := by
      rcases hs with e | e
      · exact Or.inl (by simp [e])
      · exact Or.inr ⟨by simp [e], by simp [e]⟩
    have hn1 : (h.state != 1) = false ∨ (h.state != 1) = true ∧ (h.state != 2) = false := by
      rcases hs with e | e
      · exact Or.inl (by simp [e])
      · exact Or.inr ⟨by simp [e], by simp [e]⟩
    clear hx hy hg hpow hs hR s1 H hT hK hTt hK100
    go_enter Tryz.func12, Tryz.ntmps12
    rcases hn1 with n1 | ⟨n1, n2⟩
    all_goals
      go_upto_region 4 with fail
      clear c10 c20 f20
      generalize w.setCell ⟨b, 20, none⟩ (.int .i64 (h.ticks + 1)) = W1 at *
      have d8 := (H1.out.cells HX.out.1 HX.out.2).c8
      have d9 := (H1.out.cells HX.out.1 HX.out.2).c9
      have d10 := (H1.out.cells HX.out.1 HX.out.2).c10
      have d20 := (H1.out.cells HX.out.1 HX.out.2).c20
      have d21 := (H1.out.cells HX.out.1 HX.out.2).c21
      have f10 := H1.out.fz 10
      have f21 := H1.out.fz 21
      simp only at d8 d9 d10 d20 d21
      go_wp2
      go_loopw [3, 4] (fun vn vi wr => ∃ i : Nat, i ≤ T ∧ vn = .int .i64 ((K * 2 ^ i : Nat) : Int) ∧ vi = .int .i64 (i : Int) ∧ wr = W1) (fun _ vi _ => T - (intOf vi).toNat)
      case atStart => exact ⟨0, Nat.zero_le _, by rw [HKK.out]; simp, rfl, rfl⟩
      case round =>
        obtain ⟨i, hi, rfl, rfl, rfl⟩ := hrel
        by_cases hlt : i < T
        · have hlt' : (i : Int) < h.tries := by rw [HTT.out]; omega
          have hp1 := HPW.out i hi
          have hp2 := HPW.out (i + 1) (by omega)
          have hm : K * 2 ^ (i + 1) = 2 * (K * 2 ^ i) := by rw [Nat.pow_succ, ← Nat.mul_assoc]; omega
          rw [hm] at hp2
          have HM := hid hm
          clear hm
          generalize K * 2 ^ i = N at *
          go_wp2
          go_roundw
          case rel => exact ⟨i + 1, by omega, by rw [HM.out]; go_num, by go_num, trivial⟩
          case measure => simp [intOf]; omega
        · have hlt' : ¬ (i : Int) < h.tries := by rw [HTT.out]; omega
          obtain rfl : i = T := by omega
          have hp1 := HPW.out i hi
          have HT1 : Hid (h.wait * 2 ^ h.tries.toNat = ((K * 2 ^ i : Nat) : Int)) := by
            show h.wait * 2 ^ h.tries.toNat = ((K * 2 ^ i : Nat) : Int)
            rw [HTo.out, HKK.out]
            push_cast
            rfl
          generalize K * 2 ^ i = N at *
          by_cases hq : h.ticks + 1 < (N : Int)
          · have hfin : R = ([], { h with ticks := h.ticks + 1 }) := by rw [← HR.out, tickD_more h HSS.out (by rw [HT1.out]; exact hq)]
            obtain rfl := hfin
            clear HR
            go_wp2
            go_ret
            exact ⟨_, rfl, OwnE.nil _ _, H1.out, K1.out⟩
          · by_cases hr : h.retry ≤ h.tries
            · have hfin : R = ([], { h with ticks := h.ticks + 1, state := 4 }) := by rw [← HR.out, tickD_end h HSS.out (by rw [HT1.out]; exact hq) hr]
              obtain rfl := hfin
              have H2 : Hid (∀ n, HdIn ((wr.drewN n).setCell ⟨b, 10, none⟩ (.int .i64 4)) b { h with ticks := h.ticks + 1, state := 4 }) := fun n => HdIn.set (w := wr.drewN n) (h := { h with ticks := h.ticks + 1 }) H1.out 10 _ (hd_state (h := { h with ticks := h.ticks + 1 }) HG.out.mac 4)
              have K2 : Hid (∀ n, Kept (fun i => i = b) w ((wr.drewN n).setCell ⟨b, 10, none⟩ (.int .i64 4))) := fun n => (K1.out.drewN n).setCell (p := ⟨b, 10, none⟩) (Or.inr rfl) _
              clear HR
              go_wp2
              go_quiet (fail)
              go_wp2
              go_ret
              exact ⟨_, rfl, OwnE.nil _ _, H2.out _, K2.out _⟩
            · have hfin : R = (askD { h with ticks := h.ticks + 1, tries := h.tries + 1 }, { h with ticks := 0, tries := h.tries + 1 }) := by rw [← HR.out, tickD_again h HSS.out (by rw [HT1.out]; exact hq) hr]
              obtain rfl := hfin
              have H2 : Hid (∀ n, HdIn ((wr.drewN n).setCell ⟨b, 21, none⟩ (.int .i64 (h.tries + 1))) b { h with ticks := h.ticks + 1, tries := h.tries + 1 }) := fun n => HdIn.set (w := wr.drewN n) (h := { h with ticks := h.ticks + 1 }) H1.out 21 _ (hd_tries (h := { h with ticks := h.ticks + 1 }) HG.out.mac HG.out.ac _)
              have K2 : Hid (∀ n, Kept (fun i => i = b) w ((wr.drewN n).setCell ⟨b, 21, none⟩ (.int .i64 (h.tries + 1)))) := fun n => (K1.out.drewN n).setCell (p := ⟨b, 21, none⟩) (Or.inr rfl) _
              have HA := hid (fun n => rAsk_any b { h with ticks := h.ticks + 1, tries := h.tries + 1 } ⟨HG.out.mac, HG.out.ac, HG.out.service, HG.out.uniq, HG.out.retry, HG.out.wait, HG.out.cookie, ⟨by show 0 ≤ h.ticks + 1; omega, by show h.ticks + 1 ≤ 1000000000; omega⟩, ⟨by show 0 ≤ h.tries + 1; have := HG.out.tries.1; omega, by show h.tries + 1 ≤ h.retry; omega⟩⟩ _ (H2.out n))
              clear HR
              go_wp2
              go_quiet (fail)
              go_upto_region 15 with fail
              go_wp2_with fail
              refine (HA.out _).mono ?_
              rintro e w5 ⟨u5, rfl, hu5, hh5, hk5⟩
              have HF := hid (And.intro (hu5.mono (K2.out _).size) (And.intro hh5 ((K2.out _).trans hk5)))
              clear hu5 hh5 hk5
              go_wp2
              go_ret
              exact ⟨u5, rfl, HF.out⟩
  · have hfin : tickD h = ([], h) := by unfold tickD; rw [if_neg hs]
    rw [hfin]
    have hs1 : (h.state != 1) = true := by simp; omega
    have hs2 : (h.state != 2) = true := by simp; omega
    have HF := hid H
    clear H hx hy hs hfin
    go_enter Tryz.func12, Tryz.ntmps12
    go_wp2
    go_ret
    exact ⟨_, rfl, OwnE.nil _ _, HF.out, Kept.refl _ w⟩
end Go.Proofs.YtffnppfoofifgaaGreat
