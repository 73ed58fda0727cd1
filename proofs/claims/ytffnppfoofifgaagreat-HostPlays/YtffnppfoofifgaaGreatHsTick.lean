/- The contract of the host's Tick. -/
import Derived.Test.YtffnppfoofifgaaGreatTk
import Derived.Test.YtffnppfoofifgaaGreatHsIn
namespace Go.Proofs.YtffnppfoofifgaaGreat
open Go.RowKit

theorem drew2_block {w : World} {g : Nat} {o : Option Obj} (h : w.heap[g]? = o) : w.drew.drew.heap[g]? = o := h
theorem shl_at (a n : Nat) (hn : n ≤ 10) (ha : a ≤ 100) : IntKind.i64.wrap ((a : Int) * 2 ^ min n 64) = ((a * 2 ^ n : Nat) : Int) := by
  have hb : a * 2 ^ n ≤ 102400 := Nat.mul_le_mul ha (pow_le10 hn)
  have e : ((a : Int) * 2 ^ min n 64) = ((a * 2 ^ n : Nat) : Int) := by rw [Nat.min_eq_left (by omega)]; simp
  rw [e, IntKind.wrap_i64]
  omega

set_option maxHeartbeats 4000000 in
set_option maxRecDepth 100000 in
theorem tick_any {S : Nat → Prop} (b : Nat) (h : Hs) (hg : GoodH h) (w : World) (hA : HAt S w b h) :
    Calls Tryz.prog 11 #[.pointer (some ⟨b, 0, none⟩)] w fun e w' => ∃ v, e = .returned v ∧ HOut S w w' b (tickF h).2 v (tickF h).1 := by
  obtain ⟨x0, x1, x2, x3, x4, x5, hx⟩ := six_cells hg.mac
  obtain ⟨y0, y1, y2, y3, y4, y5, hy⟩ := six_cells hg.conc
  obtain ⟨av, hH, hS⟩ := id hA
  obtain ⟨pa, ca, rfl⟩ := slice_of hH.own
  have HN := hid (hH.notNone hg)
  have hflat := hH.flat hx hy
  have hb0 : b < w.heap.size := hH.lt (Or.inl rfl)
  have hSb : S b := (hS b).2 (Or.inl rfl)
  have c10 := (hH.cells hx hy).c10
  have c20 := (hH.cells hx hy).c20
  have hfz := (hH.cells hx hy).f
  have HNX := hid hA.next
  unfold tickF
  by_cases hst : h.state = 1 ∨ h.state = 2
  · rw [if_pos hst]
    have hspan := hg.span
    have hticks := hg.ticks
    have hagain := hg.again
    have hretry := hg.retry
    have hw1 : IntKind.i64.wrap ((h.ticks : Int) + 1) = (h.ticks : Int) + 1 := by rw [IntKind.wrap_i64]; omega
    have hw2 : IntKind.i64.wrap ((h.again : Int) + 1) = (h.again : Int) + 1 := by rw [IntKind.wrap_i64]; omega
    have hsh := shl_at h.wait h.again (Nat.le_trans hg.again hg.retry) hg.wait
    obtain ⟨w1, he1⟩ : ∃ w1, w1 = w.setCell ⟨b, 20, none⟩ (.int .i64 ((h.ticks : Int) + 1)) := ⟨_, rfl⟩
    have H1 := hid he1
    have hf1 : HB b #[.int .u8 x0, .int .u8 x1, .int .u8 x2, .int .u8 x3, .int .u8 x4, .int .u8 x5, .string h.service, .string h.uniq, .int .i64 (h.retry : Int), .int .i64 (h.wait : Int), .int .i64 h.state, .int .u8 y0, .int .u8 y1, .int .u8 y2, .int .u8 y3, .int .u8 y4, .int .u8 y5, .int .i64 h.session, (.slice pa h.asked.length ca), .int .i64 (h.again : Int), .int .i64 ((h.ticks : Int) + 1)] w1 := by
      have := Joins.block_setCell hflat (i := 20) (.int .i64 ((h.ticks : Int) + 1))
      rw [← he1] at this
      exact this
    have k1 : Kept (fun i => i = b) w w1 := by rw [he1]; exact (Kept.refl (fun i => i = b) w).setCell (Or.inr (by rfl)) _
    have k1d : Kept (fun i => i = b) w w1.drew := k1.drew
    have hf1d : HB b #[.int .u8 x0, .int .u8 x1, .int .u8 x2, .int .u8 x3, .int .u8 x4, .int .u8 x5, .string h.service, .string h.uniq, .int .i64 (h.retry : Int), .int .i64 (h.wait : Int), .int .i64 h.state, .int .u8 y0, .int .u8 y1, .int .u8 y2, .int .u8 y3, .int .u8 y4, .int .u8 y5, .int .i64 h.session, (.slice pa h.asked.length ca), .int .i64 (h.again : Int), .int .i64 ((h.ticks : Int) + 1)] w1.drew := hf1
    have HF := hid hf1d
    clear he1
    have r20 : ∀ W, HB b #[.int .u8 x0, .int .u8 x1, .int .u8 x2, .int .u8 x3, .int .u8 x4, .int .u8 x5, .string h.service, .string h.uniq, .int .i64 (h.retry : Int), .int .i64 (h.wait : Int), .int .i64 h.state, .int .u8 y0, .int .u8 y1, .int .u8 y2, .int .u8 y3, .int .u8 y4, .int .u8 y5, .int .i64 h.session, (.slice pa h.asked.length ca), .int .i64 (h.again : Int), .int .i64 ((h.ticks : Int) + 1)] W → W.cell? ⟨b, 20, none⟩ = some (.int .i64 ((h.ticks : Int) + 1)) := fun W hW => hW.cell 20
    have r9 : ∀ W, HB b #[.int .u8 x0, .int .u8 x1, .int .u8 x2, .int .u8 x3, .int .u8 x4, .int .u8 x5, .string h.service, .string h.uniq, .int .i64 (h.retry : Int), .int .i64 (h.wait : Int), .int .i64 h.state, .int .u8 y0, .int .u8 y1, .int .u8 y2, .int .u8 y3, .int .u8 y4, .int .u8 y5, .int .i64 h.session, (.slice pa h.asked.length ca), .int .i64 (h.again : Int), .int .i64 ((h.ticks : Int) + 1)] W → W.cell? ⟨b, 9, none⟩ = some (.int .i64 (h.wait : Int)) := fun W hW => hW.cell 9
    have r19 : ∀ W, HB b #[.int .u8 x0, .int .u8 x1, .int .u8 x2, .int .u8 x3, .int .u8 x4, .int .u8 x5, .string h.service, .string h.uniq, .int .i64 (h.retry : Int), .int .i64 (h.wait : Int), .int .i64 h.state, .int .u8 y0, .int .u8 y1, .int .u8 y2, .int .u8 y3, .int .u8 y4, .int .u8 y5, .int .i64 h.session, (.slice pa h.asked.length ca), .int .i64 (h.again : Int), .int .i64 ((h.ticks : Int) + 1)] W → W.cell? ⟨b, 19, none⟩ = some (.int .i64 (h.again : Int)) := fun W hW => hW.cell 19
    have r8 : ∀ W, HB b #[.int .u8 x0, .int .u8 x1, .int .u8 x2, .int .u8 x3, .int .u8 x4, .int .u8 x5, .string h.service, .string h.uniq, .int .i64 (h.retry : Int), .int .i64 (h.wait : Int), .int .i64 h.state, .int .u8 y0, .int .u8 y1, .int .u8 y2, .int .u8 y3, .int .u8 y4, .int .u8 y5, .int .i64 h.session, (.slice pa h.asked.length ca), .int .i64 (h.again : Int), .int .i64 ((h.ticks : Int) + 1)] W → W.cell? ⟨b, 8, none⟩ = some (.int .i64 (h.retry : Int)) := fun W hW => hW.cell 8
    generalize hsp : h.wait * 2 ^ h.again = N at *
    by_cases hlt : h.ticks + 1 < N
    · rw [if_pos hlt]
      have HX : Hid (HNext S w w1.drew b { h with ticks := h.ticks + 1 }) := next_same hH hS k1d (by
        unfold hostList
        simp only []
        rw [hx, hy]
        exact hf1d) rfl
      have hdec : decide ((h.ticks : Int) + 1 < (N : Int)) = true := by simp; omega
      clear hg hA hH hS hflat hx hy hf1 hf1d k1 k1d hticks hspan hagain hretry hw2 hlt hsp HNX
      rcases hst with hst | hst
      all_goals
        rw [hst] at c10
        clear hst
        go_enter Tryz.func11, Tryz.ntmps11
        go_wp2_with fail
        refine HN.out.mono ?_
        rintro e w' ⟨rfl, hw'⟩
        rw [hw']
        clear hw' w'
        go_wp2_with fail
        rw [← H1.out]
        refine wp_region_held_drew (S := HB b #[.int .u8 x0, .int .u8 x1, .int .u8 x2, .int .u8 x3, .int .u8 x4, .int .u8 x5, .string h.service, .string h.uniq, .int .i64 (h.retry : Int), .int .i64 (h.wait : Int), .int .i64 h.state, .int .u8 y0, .int .u8 y1, .int .u8 y2, .int .u8 y3, .int .u8 y4, .int .u8 y5, .int .i64 h.session, (.slice pa h.asked.length ca), .int .i64 (h.again : Int), .int .i64 ((h.ticks : Int) + 1)]) (by kernel_rfl) (HF.out) (fun hSd => ?_)
        refine Tks.out (l := [(0, some none), (1, some none), (2, some none), (3, some none), (4, some none), (5, some none), (6, some none), (7, some none), (8, some none), (9, some none), (10, some none), (11, some none), (12, some none), (13, some none)]) ?_
        iterate 14
         refine tkT (v := ?_) rfl (by kernel_rfl) (by kernel_rfl) (by kernel_rfl) (fun _ _ _ h => h) (Or.inl ⟨by kernel_rfl, fun W hSW => by go_simp; try with_reducible rfl⟩) (by assumption) ?_
         try simp only [List.getElem_toArray, List.getElem_cons_succ, List.getElem_cons_zero]
         try go_frame
        refine tkE ?_
        refine Tks.out (l := [(14, some (some (.int .i64 (N : Int)))), (15, some (some (.bool true)))]) ?_
        iterate 2
         refine tkV rfl (by kernel_rfl) (by kernel_rfl) (by kernel_rfl) (fun _ _ _ h => h) (Or.inl ⟨by kernel_rfl, fun W hSW => by go_simp; try with_reducible rfl⟩) (by assumption) ?_
         try simp only [List.getElem_toArray, List.getElem_cons_succ, List.getElem_cons_zero]
         try go_frame
        refine tkE ?_
        refine wpAnyH_done (by kernel_rfl) ?_ _
        go_wp2
        go_ret
        exact ⟨_, rfl, HOut.nil HX.out⟩
    · rw [if_neg hlt]
      have hdec : decide ((h.ticks : Int) + 1 < (N : Int)) = false := by simp; omega
      have hcl1 := fun j => cell_of_row w1 b j _ _ _ hf1
      have hfz1 := fun j => frozen_of_row w1 b j _ _ hf1
      have e10 := hcl1 10
      have e11 := hcl1 11
      have e12 := hcl1 12
      have e13 := hcl1 13
      have e14 := hcl1 14
      have e15 := hcl1 15
      have e16 := hcl1 16
      have e17 := hcl1 17
      have e18 := hcl1 18
      have e19 := hcl1 19
      have e20 := hcl1 20
      simp only [List.getElem?_toArray, List.getElem?_cons_zero, List.getElem?_cons_succ] at e10 e11 e12 e13 e14 e15 e16 e17 e18 e19 e20
      clear hcl1
      by_cases hag : h.again = h.retry
      · rw [if_pos hag]
        have hdec2 : ((h.again : Int) == (h.retry : Int)) = true := by simp; omega
        obtain ⟨w2, he2⟩ : ∃ w2, w2 = (setPhase w1 b (.int .i64 4) (.int .u8 0) (.int .u8 0) (.int .u8 0) (.int .u8 0) (.int .u8 0) (.int .u8 0) (.int .i64 0) (.slice none 0 0) (.int .i64 0) (.int .i64 0)).drew.drew := ⟨_, rfl⟩
        have H2 := hid he2
        have hf2 := drew2_block (setPhase_block (w := w1) (p0 := .int .i64 4) (p1 := .int .u8 0) (p2 := .int .u8 0) (p3 := .int .u8 0) (p4 := .int .u8 0) (p5 := .int .u8 0) (p6 := .int .u8 0) (p7 := .int .i64 0) (p8 := .slice none 0 0) (p9 := .int .i64 0) (p10 := .int .i64 0) hf1)
        rw [← he2] at hf2
        have k2 : Kept (fun i => i = b) w w2 := by rw [he2]; exact (setPhase_kept (S := fun i => i = b) k1 (Or.inr (by rfl)) _ _ _ _ _ _ _ _ _ _ _).drew.drew
        have HX : Hid (HNext S w w2 b (h.at 4 mac0 0 [])) := next_nil hH hS k2 (by
          unfold hostList Hs.at
          simp only []
          rw [hx]
          exact hf2) rfl
        clear hg hA hH hS hflat hx hy hf1 hf1d k1 k1d hticks hspan hagain hretry hw2 hlt hsp HNX hf2 k2 he2 hag
        rcases hst with hst | hst
        all_goals
          rw [hst] at c10
          clear hst
          go_enter Tryz.func11, Tryz.ntmps11
          go_wp2_with fail
          refine HN.out.mono ?_
          rintro e w' ⟨rfl, hw'⟩
          rw [hw']
          clear hw' w'
          go_wp2_with fail
          rw [← H1.out]
          refine wp_region_held_drew (S := HB b #[.int .u8 x0, .int .u8 x1, .int .u8 x2, .int .u8 x3, .int .u8 x4, .int .u8 x5, .string h.service, .string h.uniq, .int .i64 (h.retry : Int), .int .i64 (h.wait : Int), .int .i64 h.state, .int .u8 y0, .int .u8 y1, .int .u8 y2, .int .u8 y3, .int .u8 y4, .int .u8 y5, .int .i64 h.session, (.slice pa h.asked.length ca), .int .i64 (h.again : Int), .int .i64 ((h.ticks : Int) + 1)]) (by kernel_rfl) (HF.out) (fun hSd => ?_)
          refine Tks.out (l := [(0, some none), (1, some none), (2, some none), (3, some none), (4, some none), (5, some none), (6, some none), (7, some none), (8, some none), (9, some none), (10, some none), (11, some none), (12, some none), (13, some none)]) ?_
          iterate 14
           refine tkT (v := ?_) rfl (by kernel_rfl) (by kernel_rfl) (by kernel_rfl) (fun _ _ _ h => h) (Or.inl ⟨by kernel_rfl, fun W hSW => by go_simp; try with_reducible rfl⟩) (by assumption) ?_
           try simp only [List.getElem_toArray, List.getElem_cons_succ, List.getElem_cons_zero]
           try go_frame
          refine tkE ?_
          refine Tks.out (l := [(14, some (some (.int .i64 (N : Int)))), (15, some (some (.bool false)))]) ?_
          iterate 2
           refine tkV rfl (by kernel_rfl) (by kernel_rfl) (by kernel_rfl) (fun _ _ _ h => h) (Or.inl ⟨by kernel_rfl, fun W hSW => by go_simp; try with_reducible rfl⟩) (by assumption) ?_
           try simp only [List.getElem_toArray, List.getElem_cons_succ, List.getElem_cons_zero]
           try go_frame
          refine tkE ?_
          refine wpAnyH_done (by kernel_rfl) ?_ _
          go_wp2
          refine wp_region_held_drew (S := HB b #[.int .u8 x0, .int .u8 x1, .int .u8 x2, .int .u8 x3, .int .u8 x4, .int .u8 x5, .string h.service, .string h.uniq, .int .i64 (h.retry : Int), .int .i64 (h.wait : Int), .int .i64 h.state, .int .u8 y0, .int .u8 y1, .int .u8 y2, .int .u8 y3, .int .u8 y4, .int .u8 y5, .int .i64 h.session, (.slice pa h.asked.length ca), .int .i64 (h.again : Int), .int .i64 ((h.ticks : Int) + 1)]) (by kernel_rfl) (HF.out) (fun hSd => ?_)
          refine Tks.out (l := [(0, some none), (1, some none), (2, some none), (3, some none), (4, some none), (5, some none), (6, some none), (7, some none), (8, some none)]) ?_
          iterate 9
           refine tkT (v := ?_) rfl (by kernel_rfl) (by kernel_rfl) (by kernel_rfl) (fun _ _ _ h => h) (Or.inl ⟨by kernel_rfl, fun W hSW => by go_simp; try with_reducible rfl⟩) (by assumption) ?_
           try simp only [List.getElem_toArray, List.getElem_cons_succ, List.getElem_cons_zero]
           try go_frame
          refine tkE ?_
          refine wpAnyH_take (i := 9) (v := (.bool true)) rfl (by kernel_rfl) (by kernel_rfl) (by kernel_rfl) (fun _ _ _ h => h) (Or.inl ⟨by kernel_rfl, fun W hSW => by go_simp; try with_reducible rfl⟩) (by assumption) ?_
          try simp only [List.getElem_toArray, List.getElem_cons_succ, List.getElem_cons_zero]
          try go_frame
          refine wpAnyH_done (by kernel_rfl) ?_ _
          go_wp2
          go_ret
          refine ⟨_, rfl, HOut.nil ?_⟩
          have := HX.out
          rw [H2.out] at this
          exact this
      · rw [if_neg hag]
        have hdec2 : ((h.again : Int) == (h.retry : Int)) = false := by rw [beq_eq_false_iff_ne]; omega
        obtain ⟨w2, he2⟩ : ∃ w2, w2 = ((w1.setCell ⟨b, 19, none⟩ (.int .i64 ((h.again : Int) + 1))).setCell ⟨b, 20, none⟩ (.int .i64 0)).drew.drew := ⟨_, rfl⟩
        have H2 := hid he2
        have hf2 : w2.heap[b]? = some (.cells #[.int .u8 x0, .int .u8 x1, .int .u8 x2, .int .u8 x3, .int .u8 x4, .int .u8 x5, .string h.service, .string h.uniq, .int .i64 (h.retry : Int), .int .i64 (h.wait : Int), .int .i64 h.state, .int .u8 y0, .int .u8 y1, .int .u8 y2, .int .u8 y3, .int .u8 y4, .int .u8 y5, .int .i64 h.session, (.slice pa h.asked.length ca), .int .i64 ((h.again : Int) + 1), .int .i64 0] 73 (0, 0)) := by
          have q1 := Joins.block_setCell (w := w1) hf1 (i := 19) (.int .i64 ((h.again : Int) + 1))
          have q2 := Joins.block_setCell q1 (i := 20) (.int .i64 0)
          have q3 := drew2_block q2
          rw [← he2] at q3
          exact q3
        have k2 : Kept (fun i => i = b) w w2 := by rw [he2]; exact ((k1.setCell (p := ⟨b, 19, none⟩) (Or.inr (by rfl)) _).setCell (p := ⟨b, 20, none⟩) (Or.inr (by rfl)) _).drew.drew
        have hX : HNext S w w2 b { h with again := h.again + 1, ticks := 0 } := next_same hH hS k2 (by
          unfold hostList
          simp only []
          rw [hx, hy]
          exact hf2) rfl
        have HX := hid hX
        have hown2 : OwnE w2 0 (.slice pa h.asked.length ca) h.asked := hH.own.same (fun i hi => k2.block i (hH.lt (Or.inr hi)) (fun e => hH.ng (by rw [hi, e])))
        have HCL := hid (cloneE_any (.slice pa h.asked.length ca) h.asked 0 w2 hown2 (by have := hg.asked; omega))
        have g18 : w2.cell? ⟨b, 18, none⟩ = some (.slice pa h.asked.length ca) := cell_of_row w2 b 18 _ _ _ hf2
        have hsz2 : w.heap.size ≤ w2.heap.size := k2.size
        clear hg hA hH hS hflat hx hy hf1 hf1d k1 k1d hticks hspan hagain hretry hlt hsp HNX hf2 k2 he2 hag hX hown2
        rcases hst with hst | hst
        all_goals
          rw [hst] at c10
          clear hst
          go_enter Tryz.func11, Tryz.ntmps11
          go_wp2_with fail
          refine HN.out.mono ?_
          rintro e w' ⟨rfl, hw'⟩
          rw [hw']
          clear hw' w'
          go_wp2_with fail
          rw [← H1.out]
          refine wp_region_held_drew (S := HB b #[.int .u8 x0, .int .u8 x1, .int .u8 x2, .int .u8 x3, .int .u8 x4, .int .u8 x5, .string h.service, .string h.uniq, .int .i64 (h.retry : Int), .int .i64 (h.wait : Int), .int .i64 h.state, .int .u8 y0, .int .u8 y1, .int .u8 y2, .int .u8 y3, .int .u8 y4, .int .u8 y5, .int .i64 h.session, (.slice pa h.asked.length ca), .int .i64 (h.again : Int), .int .i64 ((h.ticks : Int) + 1)]) (by kernel_rfl) (HF.out) (fun hSd => ?_)
          refine Tks.out (l := [(0, some none), (1, some none), (2, some none), (3, some none), (4, some none), (5, some none), (6, some none), (7, some none), (8, some none), (9, some none), (10, some none), (11, some none), (12, some none), (13, some none)]) ?_
          iterate 14
           refine tkT (v := ?_) rfl (by kernel_rfl) (by kernel_rfl) (by kernel_rfl) (fun _ _ _ h => h) (Or.inl ⟨by kernel_rfl, fun W hSW => by go_simp; try with_reducible rfl⟩) (by assumption) ?_
           try simp only [List.getElem_toArray, List.getElem_cons_succ, List.getElem_cons_zero]
           try go_frame
          refine tkE ?_
          refine Tks.out (l := [(14, some (some (.int .i64 (N : Int)))), (15, some (some (.bool false)))]) ?_
          iterate 2
           refine tkV rfl (by kernel_rfl) (by kernel_rfl) (by kernel_rfl) (fun _ _ _ h => h) (Or.inl ⟨by kernel_rfl, fun W hSW => by go_simp; try with_reducible rfl⟩) (by assumption) ?_
           try simp only [List.getElem_toArray, List.getElem_cons_succ, List.getElem_cons_zero]
           try go_frame
          refine tkE ?_
          refine wpAnyH_done (by kernel_rfl) ?_ _
          go_wp2
          refine wp_region_held_drew (S := HB b #[.int .u8 x0, .int .u8 x1, .int .u8 x2, .int .u8 x3, .int .u8 x4, .int .u8 x5, .string h.service, .string h.uniq, .int .i64 (h.retry : Int), .int .i64 (h.wait : Int), .int .i64 h.state, .int .u8 y0, .int .u8 y1, .int .u8 y2, .int .u8 y3, .int .u8 y4, .int .u8 y5, .int .i64 h.session, (.slice pa h.asked.length ca), .int .i64 (h.again : Int), .int .i64 ((h.ticks : Int) + 1)]) (by kernel_rfl) (HF.out) (fun hSd => ?_)
          refine Tks.out (l := [(0, some none), (1, some none), (2, some none), (3, some none), (4, some none), (5, some none), (6, some none), (7, some none), (8, some none)]) ?_
          iterate 9
           refine tkT (v := ?_) rfl (by kernel_rfl) (by kernel_rfl) (by kernel_rfl) (fun _ _ _ h => h) (Or.inl ⟨by kernel_rfl, fun W hSW => by go_simp; try with_reducible rfl⟩) (by assumption) ?_
           try simp only [List.getElem_toArray, List.getElem_cons_succ, List.getElem_cons_zero]
           try go_frame
          refine tkE ?_
          refine wpAnyH_take (i := 9) (v := (.bool false)) rfl (by kernel_rfl) (by kernel_rfl) (by kernel_rfl) (fun _ _ _ h => h) (Or.inl ⟨by kernel_rfl, fun W hSW => by go_simp; try with_reducible rfl⟩) (by assumption) ?_
          try simp only [List.getElem_toArray, List.getElem_cons_succ, List.getElem_cons_zero]
          try go_frame
          refine wpAnyH_done (by kernel_rfl) ?_ _
          go_wp2_with fail
          rw [← H2.out]
          refine HCL.out.mono ?_
          rintro e w3 ⟨u3, rfl, hu3, hk3⟩
          go_wp2
          go_ret
          exact ⟨u3, rfl, HOut.of HX.out hk3 hu3⟩
  · rw [if_neg hst]
    have n1 : (h.state != 1) = true := by simp; omega
    have n2 : (h.state != 2) = true := by simp; omega
    clear hst hA hH hS hg hx hy hflat
    go_enter Tryz.func11, Tryz.ntmps11
    go_wp2_with fail
    refine HN.out.mono ?_
    rintro e w' ⟨rfl, hw'⟩
    rw [hw']
    clear hw' w'
    go_wp2
    go_ret
    exact ⟨_, rfl, HOut.nil HNX.out⟩
end Go.Proofs.YtffnppfoofifgaaGreat
