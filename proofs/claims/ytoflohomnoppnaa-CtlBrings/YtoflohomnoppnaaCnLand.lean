/- The contracts of an end's first, acked and land. -/
import Derived.Test.YtoflohomnoppnaaCnTick
import Derived.Test.YtoflohomnoppnaaCnPush
namespace Go.Proofs.Ytoflohomnoppnaa
open Go.RowKit

set_option maxHeartbeats 4000000 in
set_option maxRecDepth 100000 in
theorem first_any (b : Nat) (c : Cn) (p : Option Addr) (cap : Nat) (vw : Value) (w : World) (h : CnB w b c vw (.slice p c.flies.length cap)) (hg : GoodN c) :
    Calls Try.prog 30 #[.pointer (some ⟨b, 0, none⟩)] w fun e w' => e = .returned (.int .i64 (firstN c)) ∧ Kept (fun _ => False) w w' := by
  obtain ⟨c0, c1, c2, c3, c4, c5, c6, c7, c8, c9, c10, c11, c12, c13, c14, c15⟩ := h.cells
  have g1 := hg.next
  have g2 := hg.flies.1
  have w1 : IntKind.i64.wrap (c.next - (c.flies.length : Int)) = c.next - (c.flies.length : Int) := by rw [IntKind.wrap_i64]; omega
  have HW := hid (fun W => wrap_any (c.next - (c.flies.length : Int)) W)
  have HE : Hid (firstN c = wrapN (c.next - (c.flies.length : Int))) := rfl
  generalize wrapN (c.next - (c.flies.length : Int)) = R at *
  clear h hg g1 g2
  obtain ⟨queue, retry, wait, win, room, mark, count, next, come, waits, flies, owed, again, ticks, tries, dead⟩ := c
  dsimp only at *
  go_enter Try.func30, Try.ntmps30
  go_wp2
  go_quiet ((go_at_call 22; exact Calls.quiet_of_same (HW.out _)))
  go_wp2
  go_returns
  exact ⟨by rw [HE.out]; rfl, (Kept.refl _ w).drewN _⟩

theorem goN_le (f nr : Int) : ∀ k n, goN f nr k n ≤ n + k
  | 0, n => Nat.le_refl _
  | k + 1, n => by
    unfold goN
    split
    · have := goN_le f nr k (n + 1)
      omega
    · omega
theorem goN_ge (f nr : Int) : ∀ k n, n ≤ goN f nr k n
  | 0, n => Nat.le_refl _
  | k + 1, n => by
    unfold goN
    split
    · have := goN_ge f nr k (n + 1)
      omega
    · omega
theorem ackedN_le (c : Cn) (nr : Int) : ackedN c nr ≤ c.flies.length := by
  unfold ackedN
  split
  · omega
  · have := goN_le (firstN c) nr c.flies.length 0
    omega

set_option maxHeartbeats 4000000 in
set_option maxRecDepth 100000 in
theorem ackedB_any (b : Nat) (c : Cn) (p : Option Addr) (cap : Nat) (vw : Value) (w : World) (h : CnB w b c vw (.slice p c.flies.length cap)) (hg : GoodN c) (nr : Int) :
    Calls Try.prog 28 #[.pointer (some ⟨b, 0, none⟩), .int .i64 nr] w fun e w' => e = .returned (.int .i64 (ackedN c nr : Int)) ∧ Kept (fun _ => False) w w' := by
  obtain ⟨c0, c1, c2, c3, c4, c5, c6, c7, c8, c9, c10, c11, c12, c13, c14, c15⟩ := h.cells
  have HB := hid h
  have HF := hid (fun W (hk : Kept (fun _ => False) w W) => first_any b c p cap vw W (h.kept0 hk) hg)
  have H1 := hid (fun W => before_any c.next nr W)
  have hfb := hid (wrapN_in (c.next - (c.flies.length : Int)))
  have hfl := hid hg.flies.1
  by_cases hb : beforeN c.next nr = true
  · have hE : Hid (ackedN c nr = 0) := by show _ = _; unfold ackedN; rw [if_pos hb]
    rw [hb] at H1
    clear hg h hb hfb hfl HF
    obtain ⟨queue, retry, wait, win, room, mark, count, next, come, waits, flies, owed, again, ticks, tries, dead⟩ := c
    dsimp only at *
    go_enter Try.func28, Try.ntmps28
    go_wp2_with fail
    refine (H1.out _).mono ?_
    rintro e w1 ⟨rfl, hq⟩
    rw [hq]
    clear hq w1 H1
    go_wp2
    go_returns
    exact ⟨by rw [hE.out]; rfl, Kept.refl _ w⟩
  · have hb' : beforeN c.next nr = false := by simpa using hb
    obtain ⟨G, hG⟩ : ∃ G, G = goN (firstN c) nr c.flies.length 0 := ⟨_, rfl⟩
    have hE : Hid (ackedN c nr = G) := by show _ = _; unfold ackedN; rw [if_neg hb, hG]
    have HG := hid hG.symm
    rw [hb'] at H1
    obtain ⟨f, hf⟩ : ∃ f, f = firstN c := ⟨_, rfl⟩
    have hf0 : 0 ≤ f ∧ f ≤ 65535 := by rw [hf]; exact hfb.out
    rw [← hf] at HF HG
    have g2 := hfl.out
    obtain ⟨m, hm⟩ : ∃ m, m = c.flies.length := ⟨_, rfl⟩
    rw [← hm] at HG c10 g2
    have HM := hid hm
    clear hg h hb hb' hfb hfl hG hf hm
    obtain ⟨queue, retry, wait, win, room, mark, count, next, come, waits, flies, owed, again, ticks, tries, dead⟩ := c
    dsimp only at *
    go_enter Try.func28, Try.ntmps28
    go_wp2_with fail
    refine (H1.out _).mono ?_
    rintro e w1 ⟨rfl, hq⟩
    rw [hq]
    clear hq w1 H1
    go_upto_region 4 with fail
    go_wp2_with fail
    go_loopw [5] (fun vi wr => ∃ j : Nat, j ≤ m ∧ vi = .int .i64 (j : Int) ∧ Hid (Kept (fun _ => False) w wr ∧ goN f nr (m - j) j = G)) (fun vi _ => m - (intOf vi).toNat)
    case atStart => exact ⟨0, Nat.zero_le _, rfl, Kept.refl _ _, HG.out⟩
    case round =>
      obtain ⟨j, hj, rfl, HJ⟩ := hrel
      clear HG
      have d10 : wr.cell? ⟨b, 10, none⟩ = some (.slice p m cap) := (HJ.out.1.cell (p := ⟨b, 10, none⟩) HB.out.lt id).trans c10
      by_cases hlt : j < m
      · have hltz : (j : Int) < (m : Int) := by omega
        have w1 : IntKind.i64.wrap (f + (j : Int)) = f + (j : Int) := by rw [IntKind.wrap_i64]; omega
        have HBf := hid (fun W => before_any (f + (j : Int)) nr W)
        have hst : goN f nr (m - j) j = if beforeN (f + (j : Int)) nr = true then goN f nr (m - (j + 1)) (j + 1) else j := by
          rw [show m - j = (m - (j + 1)) + 1 by omega]
          rfl
        have HST := hid hst
        clear hst
        have HK := hid HJ.out.1
        go_wp2_with fail
        refine (HF.out _ HK.out).mono ?_
        rintro e w3 ⟨rfl, hk3⟩
        have HK3 := hid (HK.out.trans hk3)
        clear hk3 HK
        go_wp2_with fail
        refine (HBf.out _).mono ?_
        rintro e w4 ⟨rfl, hq⟩
        rw [hq]
        clear hq w4 HBf
        by_cases hbf : beforeN (f + (j : Int)) nr = true
        · have hG2 : Hid (goN f nr (m - (j + 1)) (j + 1) = G) := by
            have h1 := HJ.out.2
            rw [HST.out, if_pos hbf] at h1
            exact h1
          rw [hbf]
          clear HST HJ hbf
          go_wp2
          exact ⟨⟨j + 1, hlt, by go_num, HK3.out, hG2.out⟩, by simp [intOf]; omega⟩
        · have hG2 : Hid (G = j) := by
            have h1 := HJ.out.2
            rw [HST.out, if_neg hbf] at h1
            exact h1.symm
          rw [show beforeN (f + (j : Int)) nr = false by simpa using hbf]
          clear HST HJ hbf
          go_wp2
          go_returns
          exact ⟨by rw [hE.out, hG2.out]; rfl, HK3.out⟩
      · have hltz : ¬ (j : Int) < (m : Int) := by omega
        have hG2 : Hid (G = j) := by
          have h1 := HJ.out.2
          rw [show m - j = 0 by omega] at h1
          exact h1.symm
        have HK := hid HJ.out.1
        clear HJ
        go_wp2
        go_returns
        exact ⟨by rw [hE.out, hG2.out]; rfl, HK.out⟩
theorem growsN_succ : ∀ (n : Nat) (c : Cn), growsN (n + 1) c = growN (growsN n c)
  | 0, _ => rfl
  | n + 1, c => growsN_succ n (growN c)

set_option maxHeartbeats 4000000 in
set_option maxRecDepth 100000 in
theorem land_any {w : World} {b : Nat} {c : Cn} {vw vf : Value} (h : CnIn w b c vw vf) (hg : GoodN c) (n : Nat) (hn : n ≤ c.flies.length) :
    Calls Try.prog 27 #[.pointer (some ⟨b, 0, none⟩), .int .i64 (n : Int)] w fun e w' => e = .returned (.tuple #[]) ∧ ∃ vf', NextN w w' b vw vf (landN c n) vw vf' := by
  by_cases h0 : n = 0
  · have hE : Hid (landN c n = c) := by show _ = _; unfold landN; rw [if_pos h0]
    have HN := hid (NextN.refl h)
    subst h0
    clear h hg hn
    go_enter Try.func27, Try.ntmps27
    go_wp2
    go_returns
    exact ⟨rfl, vf, by rw [hE.out]; exact HN.out⟩
  · obtain ⟨C, hC⟩ : ∃ C : Cn, C = { c with flies := c.flies.drop n, tries := 0, ticks := 0, again := false } := ⟨_, rfl⟩
    have hE : Hid (landN c n = growsN n C) := by show _ = _; unfold landN; rw [if_neg h0, hC]
    have hgC : Hid (GoodN C) := by
      show GoodN C
      have ht := hg.retry
      rw [hC]
      exact { hg with flies := ⟨by simp only [List.length_drop]; have := hg.flies.1; omega, fun x hx => hg.flies.2 x (List.mem_of_mem_drop hx)⟩, ticks := ⟨by dsimp only; omega, by dsimp only; omega⟩, tries := ⟨by dsimp only; omega, by dsimp only; omega⟩, again := fun g => by simp at g, early := fun _ => by dsimp only; omega }
    have hne : c.flies ≠ [] := fun e => h0 (by rw [e] at hn; simpa using hn)
    have HD := hid (del_any h.rf n hn hne)
    obtain ⟨p, cap, hv⟩ := own_slice h.rf
    subst hv
    obtain ⟨c0, c1, c2, c3, c4, c5, c6, c7, c8, c9, c10, c11, c12, c13, c14, c15⟩ := h.blk.cells
    have hz : ((n : Int) == 0) = false := by rw [beq_eq_false_iff_ne]; omega
    have H := hid h
    have hnb := hid h.nf
    have HC := hid hC
    have Hn := hid hn
    have hn64 : n ≤ 64 := by have := hg.flies.1; omega
    clear h hg hne hC hn h0
    go_enter Try.func27, Try.ntmps27
    go_wp2_with fail
    refine (HD.out).mono ?_
    rintro e w1 ⟨v1, rfl, ho, hb1, hk1⟩
    obtain ⟨p1, cap1, hv1⟩ := own_slice ho
    generalize (c.flies.drop n).length = n1 at hv1
    subst hv1
    have hB1 : CnB w1 b c vw (.slice p c.flies.length cap) := H.out.blk.kept hk1 (fun e => hnb.out e)
    have f10 := hB1.soft 10
    have f12 := hB1.soft 12
    have f13 := hB1.soft 13
    have f14 := hB1.soft 14
    obtain ⟨d0, d1, d2, d3, d4, d5, d6, d7, d8, d9, d10, d11, d12, d13, d14, d15⟩ := hB1.cells
    have b1 : CnB (w1.setCell ⟨b, 10, none⟩ (.slice p1 n1 cap1)) b c vw (.slice p1 n1 cap1) := hB1.set 10 (.slice p1 n1 cap1) rfl
    have b2 : CnB ((w1.setCell ⟨b, 10, none⟩ (.slice p1 n1 cap1)).setCell ⟨b, 14, none⟩ (.int .i64 0)) b { c with tries := 0 } vw (.slice p1 n1 cap1) := b1.set 14 _ rfl
    have b3 : CnB (((w1.setCell ⟨b, 10, none⟩ (.slice p1 n1 cap1)).setCell ⟨b, 14, none⟩ (.int .i64 0)).setCell ⟨b, 13, none⟩ (.int .i64 0)) b { c with tries := 0, ticks := 0 } vw (.slice p1 n1 cap1) := b2.set 13 _ rfl
    have b4 : CnB ((((w1.setCell ⟨b, 10, none⟩ (.slice p1 n1 cap1)).setCell ⟨b, 14, none⟩ (.int .i64 0)).setCell ⟨b, 13, none⟩ (.int .i64 0)).setCell ⟨b, 12, none⟩ (.bool false)) b C vw (.slice p1 n1 cap1) := by
      rw [HC.out]
      exact b3.set 12 _ rfl
    have B4 := hid b4
    have K4 : Hid (Kept (fun i => i = b) w1 ((((w1.setCell ⟨b, 10, none⟩ (.slice p1 n1 cap1)).setCell ⟨b, 14, none⟩ (.int .i64 0)).setCell ⟨b, 13, none⟩ (.int .i64 0)).setCell ⟨b, 12, none⟩ (.bool false))) := kept_cn (kept_cn (kept_cn (kept_cn (Kept.refl (fun i => i = b) w1) rfl 10 (.slice p1 n1 cap1)) rfl 14 _) rfl 13 _) rfl 12 _
    have HK1 := hid hk1
    have HO := hid ho
    have HB1 := hid hb1
    clear b1 b2 b3 b4 hB1 hk1 ho hb1 HD
    go_upto_region 4 with fail
    generalize (((w1.setCell ⟨b, 10, none⟩ (.slice p1 n1 cap1)).setCell ⟨b, 14, none⟩ (.int .i64 0)).setCell ⟨b, 13, none⟩ (.int .i64 0)).setCell ⟨b, 12, none⟩ (.bool false) = X at *
    clear c0 c1 c2 c3 c4 c5 c6 c7 c8 c9 c10 c11 c12 c13 c14 c15 d0 d1 d2 d3 d4 d5 d6 d7 d8 d9 d10 d11 d12 d13 d14 d15 f10 f12 f13 f14
    go_wp2_with fail
    go_loopw [25] (fun vi wr => ∃ j : Nat, j ≤ n ∧ vi = .int .i64 (j : Int) ∧ Hid (CnB wr b (growsN j C) vw (.slice p1 n1 cap1) ∧ Kept (fun i => i = b) X wr)) (fun vi _ => n - (intOf vi).toNat)
    case atStart => exact ⟨0, Nat.zero_le _, rfl, B4.out, Kept.refl _ _⟩
    case round =>
      obtain ⟨j, hj, rfl, HJ⟩ := hrel
      by_cases hlt : j < n
      · have hltz : (j : Int) < (n : Int) := by omega
        have HGr := hid (grow_any b (growsN j C) vw (.slice p1 n1 cap1) wr HJ.out.1 (good_growsN j hgC.out))
        go_wp2_with fail
        refine (HGr.out).mono ?_
        rintro e w3 ⟨rfl, hb3, hk3⟩
        have HJ3 : Hid (CnB w3 b (growsN (j + 1) C) vw (.slice p1 n1 cap1) ∧ Kept (fun i => i = b) X w3) := by
          show _ ∧ _
          rw [growsN_succ]
          exact ⟨hb3, HJ.out.2.trans hk3⟩
        clear hb3 hk3 HJ HGr
        go_wp2
        exact ⟨⟨j + 1, hlt, by go_num, HJ3.out⟩, by simp [intOf]; omega⟩
      · have hltz : ¬ (j : Int) < (n : Int) := by omega
        obtain rfl : j = n := by omega
        have HJ2 := hid HJ.out
        clear HJ
        go_wp2
        go_returns
        refine ⟨rfl, .slice p1 n1 cap1, ?_⟩
        rw [hE.out]
        obtain ⟨g1, g2, g3, g4, g5, g6, g7, g8, g9, g10, g11, g12, g13, g14⟩ := growsN_rest j C
        have hkX : Kept (fun i => i = b) w1 wr := K4.out.trans HJ2.out.2
        have hC8 : C.waits = c.waits := by rw [HC.out]
        have hC9 : C.flies = c.flies.drop j := by rw [HC.out]
        refine ⟨⟨HJ2.out.1, ?_, ?_, ?_⟩, ?_, ?_⟩
        · rw [g8, hC8]
          exact (H.out.rw.keptS HK1.out (fun i hi hi2 => H.out.ap i hi hi2)).keptS hkX (fun i hi e => H.out.nw (by rw [← e]; exact hi))
        · rw [g9, hC9]
          exact HO.out.keptS hkX (fun i hi e => hnb.out (by rw [← e]; rw [← HB1.out]; exact hi))
        · intro i hi
          rw [HB1.out]
          exact H.out.ap i hi
        · exact (HK1.out.mono (fun i _ e => Or.inr (Or.inr e))).trans (hkX.mono (fun i _ e => Or.inl e))
        · rintro i (e | e | e)
          · exact Or.inl (Or.inl e)
          · exact Or.inl (Or.inr (Or.inl e))
          · rw [HB1.out] at e
            exact Or.inl (Or.inr (Or.inr e))
end Go.Proofs.Ytoflohomnoppnaa
