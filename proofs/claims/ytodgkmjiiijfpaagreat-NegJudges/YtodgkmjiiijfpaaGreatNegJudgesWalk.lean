/- The law NegJudges: it returns true for every rules, options, rule and bytes, and leaves what was there. -/
import Derived.Test.YtodgkmjiiijfpaaGreatNjIn
namespace Go.Proofs.YtodgkmjiiijfpaaGreat
open Go.RowKit

set_option maxHeartbeats 8000000 in
set_option maxRecDepth 100000 in
theorem negJudges_walk (vr : Value) (rs : List Rl) (vl : Value) (l : List Tg) (one : Rl) (v : ByteArray) (w : World) (hr : RulesAt w vr rs) (hrn : rs.length ≤ maxLen) (hrs : ∀ r ∈ rs, r.suggest.size ≤ 140737488351232) (hr64 : ∀ r ∈ rs, In64 r.type)
    (hl : OptsAt w vl l) (hln : l.length ≤ maxLen) (hls : ∀ x ∈ l, x.value.size ≤ 140737488351232) (hl64 : ∀ x ∈ l, In64 x.type) (hv : v.size ≤ 140737488351232) :
    Calls Tryz.prog 3 #[vr, vl, rlV one, .string v] w fun e w' => e = .returned (.bool true) ∧ Below w.heap.size w w' := by
  have Ha := hid lawAlive_any
  have B0 := hid (RlAt.new w one)
  have K0 := hid ((Kept.refl (fun _ => False) w).alloc (.cells #[.int .i64 one.type, .int .i64 one.len, .int .i64 one.min, .int .i64 one.max, .string one.suggest] 25))
  have HR := hid (fun W (k : Kept (fun _ => False) w W) => lightR_any vr rs W (hr.kept0 k) hrn hrs)
  have HL := hid (fun W (k : Kept (fun _ => False) w W) => lightO_any vl l W (hl.kept0 k).1 hln hls)
  have HFi := hid (fun W => fits_any one v hv W)
  have HRf := hid (fun W => rFits_any one v hv W)
  unfold rlV at *
  cases q1 : lightR rs with
  | false =>
    rw [q1] at HR
    obtain ⟨pr, cr, rfl⟩ := hr.slice
    obtain ⟨pl, cl, rfl⟩ := hl.1.slice
    clear q1 hr hl
    go_enter Tryz.func3, Tryz.ntmps3
    go_wp2_with fail
    refine (HR.out _ K0.out).mono ?_
    rintro e w1 ⟨rfl, hk1⟩
    have K1 := hid (K0.out.trans hk1)
    clear hk1
    go_wp2_with fail
    refine (Ha.out _).mono ?_
    rintro e w2 ⟨rfl, hk2⟩
    go_wp2
    go_ret
    exact ⟨rfl, below_of (K1.out.trans hk2)⟩
  | true =>
    rw [q1] at HR
    cases q2 : lightO l with
    | false =>
      rw [q2] at HL
      obtain ⟨pr, cr, rfl⟩ := hr.slice
      obtain ⟨pl, cl, rfl⟩ := hl.1.slice
      clear q1 q2 hr hl
      go_enter Tryz.func3, Tryz.ntmps3
      go_wp2_with fail
      refine (HR.out _ K0.out).mono ?_
      rintro e w1 ⟨rfl, hk1⟩
      have K1 := hid (K0.out.trans hk1)
      clear hk1
      go_wp2_with fail
      refine (HL.out _ K1.out).mono ?_
      rintro e w2 ⟨rfl, hk2⟩
      have K2 := hid (K1.out.trans hk2)
      clear hk2
      go_wp2_with fail
      refine (Ha.out _).mono ?_
      rintro e w3 ⟨rfl, hk3⟩
      go_wp2
      go_ret
      exact ⟨rfl, below_of (K2.out.trans hk3)⟩
    | true =>
      rw [q2] at HL
      by_cases q3 : (400 : Int) < (v.size : Int)
      · obtain ⟨pr, cr, rfl⟩ := hr.slice
        obtain ⟨pl, cl, rfl⟩ := hl.1.slice
        clear q1 q2 hr hl
        go_enter Tryz.func3, Tryz.ntmps3
        go_wp2_with fail
        refine (HR.out _ K0.out).mono ?_
        rintro e w1 ⟨rfl, hk1⟩
        have K1 := hid (K0.out.trans hk1)
        clear hk1
        go_wp2_with fail
        refine (HL.out _ K1.out).mono ?_
        rintro e w2 ⟨rfl, hk2⟩
        have K2 := hid (K1.out.trans hk2)
        clear hk2
        go_wp2_with fail
        refine (Ha.out _).mono ?_
        rintro e w3 ⟨rfl, hk3⟩
        go_wp2
        go_ret
        exact ⟨rfl, below_of (K2.out.trans hk3)⟩
      · have hrl : rs.length ≤ 40 := (lightR_true q1).1
        have hll : l.length ≤ 50 := (lightO_true q2).1
        have HTr := hid (fun W (b : Below w.heap.size w W) => hr.below b)
        have HTl := hid (fun W (b : Below w.heap.size w W) => hl.below b)
        have HRJ := hid (fun W (b : Below w.heap.size w W) => rJudge_any vr rs vl l W (hr.below b) (by omega) (hl.below b).1 (by omega) hls)
        have HNJ := hid (fun W (v1 v2 : Value) (h1 : RulesAt W v1 rs) (h2 : OptsAt W v2 l) => judgeR_any v1 rs v2 l W h1 (by omega) hr64 h2 (by omega) hl64 hls)
        have HLn := hid (judge_len (rs := rs) (l := l))
        have HLR := hid (fun W (b : Below w.heap.size w W) => lentRules_any vr rs W (hr.below b) (by omega))
        have HLO := hid (fun W (b : Below w.heap.size w W) => lentOptions_any vl l W (hl.below b).1 (by omega))
        have HSR := hid (fun W g cap base (hn : LentRAt W base g cap rs) (b : Below w.heap.size w W) => staysRules_any g cap base vr rs W hn (hr.below b) (by omega))
        have HSO := hid (fun W g cap base (hn : LentAt W base g cap l) (b : Below w.heap.size w W) => staysOptions_any g cap base vl l W hn (hl.below b).1 (by omega))
        generalize (judgeF rs l).1 = cd at *
        generalize (judgeF rs l).2 = want at *
        generalize fitsF one v = fb at *
        have HSa := hid (fun W u1 u2 (h1 : TagsAt W u1 want) (h2 : TagsAt W u2 want) => sameOptions_any u1 u2 want want W h1 h2 (by have := HLn.out; omega))
        rw [sameF_self] at HSa
        obtain ⟨pr, cr, rfl⟩ := hr.slice
        obtain ⟨pl, cl, rfl⟩ := hl.1.slice
        clear q1 q2 hr hl hrn hrs hr64 hln hls hl64 hv
        go_enter Tryz.func3, Tryz.ntmps3
        go_wp2_with fail
        refine (HR.out _ K0.out).mono ?_
        rintro e w1 ⟨rfl, hk1⟩
        have K1 := hid (K0.out.trans hk1)
        have B1 := hid (B0.out.kept hk1 id)
        clear hk1 K0 B0 HR
        go_wp2_with fail
        refine (HL.out _ K1.out).mono ?_
        rintro e w2 ⟨rfl, hk2⟩
        have K2 := hid (K1.out.trans hk2)
        have B2 := hid (B1.out.kept hk2 id)
        clear hk2 K1 B1 HL
        obtain ⟨BC, hBC⟩ : ∃ BC, bookCells (.slice none 0 0) (.slice none 0 0) = BC := ⟨_, rfl⟩
        have HBC := hid hBC
        clear hBC
        have I0 : Hid (TB w w2.heap.size [] w2.heap.size one (w2.alloc (.cells BC 49))) := by
          have hk := (Kept.refl (fun _ => False) w2).alloc (.cells BC 49)
          refine ⟨below_of (K2.out.trans hk), B2.out.kept hk id, ⟨.slice none 0 0, .slice none 0 0, [], [], ?_, fun r v h => by simp at h⟩, fun L h => by simp at h, hk.size⟩
          have h := book_new w2 w.heap.size K2.out.size
          rw [HBC.out] at h
          exact h
        have hw2 : w.heap.size < w2.heap.size := B2.out.lt
        have HW2 := hid hw2
        clear hw2 K2 B2
        go_wp2_with (refine wpList_book HBC.out rfl rfl ?_)
        clear HBC
        refine (HRJ.out _ I0.out.bel).mono ?_
        rintro e w3 ⟨u0, rfl, hou, hk3⟩
        obtain ⟨bk, hbk⟩ : ∃ bk, bk = w2.heap.size := ⟨_, rfl⟩
        rw [← hbk] at I0 HW2 ⊢
        clear hbk
        have I1 := hid (I0.out.kept hk3)
        have O1 : Hid (OwnO w3 w.heap.size u0 want) := hou.mono I0.out.bel.size
        obtain ⟨pu, cu, rfl⟩ := slice_of hou
        clear hou hk3 I0 HRJ
        go_wp2_with fail
        go_loopw [12] (fun vk wr => ∃ (j : Nat) (Ls : List (List Tg)) (N : Nat), j ≤ 2 ∧ vk = .int .i64 (j : Int) ∧ Hid (Ls.length = j ∧ w.heap.size < N ∧ TB w bk Ls N one wr ∧ OwnO wr w.heap.size (.slice pu want.length cu) want)) (fun vk _ => 2 - (intOf vk).toNat)
        case atStart => exact ⟨0, [], bk, by omega, rfl, rfl, HW2.out, I1.out, O1.out⟩
        case round =>
          obtain ⟨j, Ls, N, hj, rfl, HI⟩ := hrel
          clear I1 O1
          by_cases hj2 : j < 2
          · as_aux_lemma =>
            have hj2z : (j : Int) < 2 := by omega
            obtain ⟨hLs, hN, hT, hO⟩ := HI.out
            have I := hid hT
            have O := hid hO
            have HN := hid hN
            have HLs := hid hLs
            clear hLs hN hT hO HI
            go_wp2_with fail
            refine (HLR.out _ I.out.bel).mono ?_
            rintro e a1 ⟨g1, k1, rfl, hm1, hk1⟩
            have I1 := hid (I.out.kept hk1)
            have O1 := hid (O.out.kept hk1)
            have M1 := hid hm1
            have S1 := hid hk1.size
            clear hm1 hk1
            go_wp2_with fail
            refine (HLO.out _ I1.out.bel).mono ?_
            rintro e a2 ⟨g2, k2, rfl, hm2, hk2⟩
            have I2 := hid (I1.out.kept hk2)
            have O2 := hid (O1.out.kept hk2)
            have M1' := hid (M1.out.kept hk2)
            have M2 := hid hm2
            have S2 := hid (Nat.le_trans S1.out hk2.size)
            clear hm2 hk2 I1 O1 M1 S1
            go_wp2_with fail
            refine (HNJ.out _ _ _ M1'.out.own.rules M2.out.own.at).mono ?_
            rintro e a3 ⟨u, rfl, hou, hk3⟩
            have I3 := hid (I2.out.kept hk3)
            have O3 := hid (O2.out.kept hk3)
            have M13 := hid (M1'.out.kept hk3)
            have M23 := hid (M2.out.kept hk3)
            have Ou := hid hou
            obtain ⟨pw, cw, rfl⟩ := slice_of hou
            clear hou hk3 I2 O2 M1' M2
            have r0 : ∀ W, Kept (fun _ => False) a3 W → W.cell? ⟨w.heap.size, 0, none⟩ = some (.int .i64 one.type) := fun W h => ((I3.out.kept h).box.cells).1
            have r1 : ∀ W, Kept (fun _ => False) a3 W → W.cell? ⟨w.heap.size, 1, none⟩ = some (.int .i64 one.len) := fun W h => ((I3.out.kept h).box.cells).2.1
            have r2 : ∀ W, Kept (fun _ => False) a3 W → W.cell? ⟨w.heap.size, 2, none⟩ = some (.int .i64 one.min) := fun W h => ((I3.out.kept h).box.cells).2.2.1
            have r3 : ∀ W, Kept (fun _ => False) a3 W → W.cell? ⟨w.heap.size, 3, none⟩ = some (.int .i64 one.max) := fun W h => ((I3.out.kept h).box.cells).2.2.2.1
            have r4 : ∀ W, Kept (fun _ => False) a3 W → W.cell? ⟨w.heap.size, 4, none⟩ = some (.string one.suggest) := fun W h => ((I3.out.kept h).box.cells).2.2.2.2
            have D0 := (Kept.refl (fun _ => False) a3).drew
            go_wp2_with fail
            refine wp_region_held_drew (S := Kept (fun _ => False) a3) (by kernel_rfl) (D0) (fun hSd => ?_)
            refine wpAnyH_take (i := 0) (v := ?_) rfl (by kernel_rfl) (by kernel_rfl) (by kernel_rfl) (fun _ _ _ h => h) (Or.inl ⟨by kernel_rfl, fun W hSW => by go_simp; try with_reducible rfl⟩) (by assumption) ?_
            try simp only [List.getElem_toArray]
            try simp only [List.getElem_cons_succ]
            try simp only [List.getElem_cons_zero]
            try simp only [Act.put]
            try simp only [List.setIfInBounds_toArray]
            try simp only [List.set_cons_succ]
            try simp only [List.set_cons_zero]
            refine wpAnyH_take (i := 1) (v := ?_) rfl (by kernel_rfl) (by kernel_rfl) (by kernel_rfl) (fun _ _ _ h => h) (Or.inl ⟨by kernel_rfl, fun W hSW => by go_simp; try with_reducible rfl⟩) (by assumption) ?_
            try simp only [List.getElem_toArray]
            try simp only [List.getElem_cons_succ]
            try simp only [List.getElem_cons_zero]
            try simp only [Act.put]
            try simp only [List.setIfInBounds_toArray]
            try simp only [List.set_cons_succ]
            try simp only [List.set_cons_zero]
            refine wpAnyH_take (i := 2) (v := .bool false) rfl (by kernel_rfl) (by kernel_rfl) (by kernel_rfl) (fun _ _ _ h => h) (Or.inl ⟨by kernel_rfl, fun W hSW => by go_simp; try with_reducible rfl⟩) (by assumption) ?_
            try simp only [List.getElem_toArray]
            try simp only [List.getElem_cons_succ]
            try simp only [List.getElem_cons_zero]
            try simp only [Act.put]
            try simp only [List.setIfInBounds_toArray]
            try simp only [List.set_cons_succ]
            try simp only [List.set_cons_zero]
            refine wpAnyH_take (i := 3) (v := .bool false) rfl (by kernel_rfl) (by kernel_rfl) (by kernel_rfl) (fun _ _ _ h => h) (Or.inl ⟨by kernel_rfl, fun W hSW => by go_simp; try with_reducible rfl⟩) (by assumption) ?_
            try simp only [List.getElem_toArray]
            try simp only [List.getElem_cons_succ]
            try simp only [List.getElem_cons_zero]
            try simp only [Act.put]
            try simp only [List.setIfInBounds_toArray]
            try simp only [List.set_cons_succ]
            try simp only [List.set_cons_zero]
            refine wpAnyH_take (i := 4) (v := ?_) rfl (by kernel_rfl) (by kernel_rfl) (by kernel_rfl) (fun _ _ _ h => h) (Or.inl ⟨by kernel_rfl, fun W hSW => by go_simp; try with_reducible rfl⟩) (by assumption) ?_
            try simp only [List.getElem_toArray]
            try simp only [List.getElem_cons_succ]
            try simp only [List.getElem_cons_zero]
            try simp only [Act.put]
            try simp only [List.setIfInBounds_toArray]
            try simp only [List.set_cons_succ]
            try simp only [List.set_cons_zero]
            refine wpAnyH_take (i := 5) (v := ?_) rfl (by kernel_rfl) (by kernel_rfl) (by kernel_rfl) (fun _ _ _ h => h) (Or.inl ⟨by kernel_rfl, fun W hSW => by go_simp; try with_reducible rfl⟩) (by assumption) ?_
            try simp only [List.getElem_toArray]
            try simp only [List.getElem_cons_succ]
            try simp only [List.getElem_cons_zero]
            try simp only [Act.put]
            try simp only [List.setIfInBounds_toArray]
            try simp only [List.set_cons_succ]
            try simp only [List.set_cons_zero]
            refine wpAnyH_ready (rs := [6]) (by kernel_rfl) (by simp) ?_
            refine AllReadyH.cons rfl (fun K hK => ?_) AllReadyH.nil
            go_simp
            refine (HSa.out _ _ _ (Ou.out.kept D0).tags (O3.out.kept D0).tags).mono ?_
            rintro e c1 ⟨rfl, hk1⟩
            have K1 := D0.trans hk1
            refine hK.out _ _ (K1) (fun _ => ?_)
            clear hK K
            try simp only [List.getElem_toArray]
            try simp only [List.getElem_cons_succ]
            try simp only [List.getElem_cons_zero]
            try simp only [Act.put]
            try simp only [List.setIfInBounds_toArray]
            try simp only [List.set_cons_succ]
            try simp only [List.set_cons_zero]
            refine wpAnyH_take (i := 7) (v := .bool false) rfl (by kernel_rfl) (by kernel_rfl) (by kernel_rfl) (fun _ _ _ h => h) (Or.inl ⟨by kernel_rfl, fun W hSW => by go_simp; try with_reducible rfl⟩) (by assumption) ?_
            try simp only [List.getElem_toArray]
            try simp only [List.getElem_cons_succ]
            try simp only [List.getElem_cons_zero]
            try simp only [Act.put]
            try simp only [List.setIfInBounds_toArray]
            try simp only [List.set_cons_succ]
            try simp only [List.set_cons_zero]
            refine wpAnyH_take (i := 8) (v := .bool false) rfl (by kernel_rfl) (by kernel_rfl) (by kernel_rfl) (fun _ _ _ h => h) (Or.inl ⟨by kernel_rfl, fun W hSW => by go_simp; try with_reducible rfl⟩) (by assumption) ?_
            try simp only [List.getElem_toArray]
            try simp only [List.getElem_cons_succ]
            try simp only [List.getElem_cons_zero]
            try simp only [Act.put]
            try simp only [List.setIfInBounds_toArray]
            try simp only [List.set_cons_succ]
            try simp only [List.set_cons_zero]
            refine wpAnyH_take (i := 9) (v := .bool false) rfl (by kernel_rfl) (by kernel_rfl) (by kernel_rfl) (fun _ _ _ h => h) (Or.inl ⟨by kernel_rfl, fun W hSW => by go_simp; try with_reducible rfl⟩) (by assumption) ?_
            try simp only [List.getElem_toArray]
            try simp only [List.getElem_cons_succ]
            try simp only [List.getElem_cons_zero]
            try simp only [Act.put]
            try simp only [List.setIfInBounds_toArray]
            try simp only [List.set_cons_succ]
            try simp only [List.set_cons_zero]
            refine wpAnyH_take (i := 10) (v := ?_) rfl (by kernel_rfl) (by kernel_rfl) (by kernel_rfl) (fun _ _ _ h => h) (Or.inl ⟨by kernel_rfl, fun W hSW => by go_simp; try with_reducible rfl⟩) (by assumption) ?_
            try simp only [List.getElem_toArray]
            try simp only [List.getElem_cons_succ]
            try simp only [List.getElem_cons_zero]
            try simp only [Act.put]
            try simp only [List.setIfInBounds_toArray]
            try simp only [List.set_cons_succ]
            try simp only [List.set_cons_zero]
            refine wpAnyH_take (i := 11) (v := ?_) rfl (by kernel_rfl) (by kernel_rfl) (by kernel_rfl) (fun _ _ _ h => h) (Or.inl ⟨by kernel_rfl, fun W hSW => by go_simp; try with_reducible rfl⟩) (by assumption) ?_
            try simp only [List.getElem_toArray]
            try simp only [List.getElem_cons_succ]
            try simp only [List.getElem_cons_zero]
            try simp only [Act.put]
            try simp only [List.setIfInBounds_toArray]
            try simp only [List.set_cons_succ]
            try simp only [List.set_cons_zero]
            refine wpAnyH_take (i := 13) (v := ?_) rfl (by kernel_rfl) (by kernel_rfl) (by kernel_rfl) (fun _ _ _ h => h) (Or.inl ⟨by kernel_rfl, fun W hSW => by go_simp; try with_reducible rfl⟩) (by assumption) ?_
            try simp only [List.getElem_toArray]
            try simp only [List.getElem_cons_succ]
            try simp only [List.getElem_cons_zero]
            try simp only [Act.put]
            try simp only [List.setIfInBounds_toArray]
            try simp only [List.set_cons_succ]
            try simp only [List.set_cons_zero]
            refine wpAnyH_take (i := 14) (v := ?_) rfl (by kernel_rfl) (by kernel_rfl) (by kernel_rfl) (fun _ _ _ h => h) (Or.inl ⟨by kernel_rfl, fun W hSW => by go_simp; try with_reducible rfl⟩) (by assumption) ?_
            try simp only [List.getElem_toArray]
            try simp only [List.getElem_cons_succ]
            try simp only [List.getElem_cons_zero]
            try simp only [Act.put]
            try simp only [List.setIfInBounds_toArray]
            try simp only [List.set_cons_succ]
            try simp only [List.set_cons_zero]
            refine wpAnyH_ready (rs := [12]) (by kernel_rfl) (by simp) ?_
            refine AllReadyH.cons rfl (fun K hK => ?_) AllReadyH.nil
            go_simp
            refine (HFi.out _).mono ?_
            rintro e c2 ⟨rfl, hk2⟩
            have K2 := K1.trans hk2
            refine hK.out _ _ (K2) (fun _ => ?_)
            clear hK K
            try simp only [List.getElem_toArray]
            try simp only [List.getElem_cons_succ]
            try simp only [List.getElem_cons_zero]
            try simp only [Act.put]
            try simp only [List.setIfInBounds_toArray]
            try simp only [List.set_cons_succ]
            try simp only [List.set_cons_zero]
            refine wpAnyH_ready (rs := [15]) (by kernel_rfl) (by simp) ?_
            refine AllReadyH.cons rfl (fun K hK => ?_) AllReadyH.nil
            go_simp
            refine (HRf.out _).mono ?_
            rintro e c3 ⟨rfl, hk3⟩
            have K3 := K2.trans hk3
            refine hK.out _ _ (K3) (fun _ => ?_)
            clear hK K
            try simp only [List.getElem_toArray]
            try simp only [List.getElem_cons_succ]
            try simp only [List.getElem_cons_zero]
            try simp only [Act.put]
            try simp only [List.setIfInBounds_toArray]
            try simp only [List.set_cons_succ]
            try simp only [List.set_cons_zero]
            refine wpAnyH_take (i := 16) (v := .bool false) rfl (by kernel_rfl) (by kernel_rfl) (by kernel_rfl) (fun _ _ _ h => h) (Or.inl ⟨by kernel_rfl, fun W hSW => by go_simp; try with_reducible rfl⟩) (by assumption) ?_
            try simp only [List.getElem_toArray]
            try simp only [List.getElem_cons_succ]
            try simp only [List.getElem_cons_zero]
            try simp only [Act.put]
            try simp only [List.setIfInBounds_toArray]
            try simp only [List.set_cons_succ]
            try simp only [List.set_cons_zero]
            refine wpAnyH_take (i := 17) (v := .bool false) rfl (by kernel_rfl) (by kernel_rfl) (by kernel_rfl) (fun _ _ _ h => h) (Or.inl ⟨by kernel_rfl, fun W hSW => by go_simp; try with_reducible rfl⟩) (by assumption) ?_
            try simp only [List.getElem_toArray]
            try simp only [List.getElem_cons_succ]
            try simp only [List.getElem_cons_zero]
            try simp only [Act.put]
            try simp only [List.setIfInBounds_toArray]
            try simp only [List.set_cons_succ]
            try simp only [List.set_cons_zero]
            refine wpAnyH_take (i := 18) (v := .bool false) rfl (by kernel_rfl) (by kernel_rfl) (by kernel_rfl) (fun _ _ _ h => h) (Or.inl ⟨by kernel_rfl, fun W hSW => by go_simp; try with_reducible rfl⟩) (by assumption) ?_
            try simp only [List.getElem_toArray]
            try simp only [List.getElem_cons_succ]
            try simp only [List.getElem_cons_zero]
            try simp only [Act.put]
            try simp only [List.setIfInBounds_toArray]
            try simp only [List.set_cons_succ]
            try simp only [List.set_cons_zero]
            refine wpAnyH_take (i := 19) (v := ?_) rfl (by kernel_rfl) (by kernel_rfl) (by kernel_rfl) (fun _ _ _ h => h) (Or.inl ⟨by kernel_rfl, fun W hSW => by go_simp; try with_reducible rfl⟩) (by assumption) ?_
            try simp only [List.getElem_toArray]
            try simp only [List.getElem_cons_succ]
            try simp only [List.getElem_cons_zero]
            try simp only [Act.put]
            try simp only [List.setIfInBounds_toArray]
            try simp only [List.set_cons_succ]
            try simp only [List.set_cons_zero]
            refine wpAnyH_take (i := 20) (v := ?_) rfl (by kernel_rfl) (by kernel_rfl) (by kernel_rfl) (fun _ _ _ h => h) (Or.inl ⟨by kernel_rfl, fun W hSW => by go_simp; try with_reducible rfl⟩) (by assumption) ?_
            try simp only [List.getElem_toArray]
            try simp only [List.getElem_cons_succ]
            try simp only [List.getElem_cons_zero]
            try simp only [Act.put]
            try simp only [List.setIfInBounds_toArray]
            try simp only [List.set_cons_succ]
            try simp only [List.set_cons_zero]
            refine wpAnyH_ready (rs := [21]) (by kernel_rfl) (by simp) ?_
            refine AllReadyH.cons rfl (fun K hK => ?_) AllReadyH.nil
            go_simp
            refine (HSR.out _ _ _ _ (M13.out.kept K3) (I3.out.kept K3).bel).mono ?_
            rintro e c4 ⟨rfl, hk4⟩
            have K4 := K3.trans hk4
            refine hK.out _ _ (K4) (fun _ => ?_)
            clear hK K
            try simp only [List.getElem_toArray]
            try simp only [List.getElem_cons_succ]
            try simp only [List.getElem_cons_zero]
            try simp only [Act.put]
            try simp only [List.setIfInBounds_toArray]
            try simp only [List.set_cons_succ]
            try simp only [List.set_cons_zero]
            refine wpAnyH_take (i := 22) (v := .bool false) rfl (by kernel_rfl) (by kernel_rfl) (by kernel_rfl) (fun _ _ _ h => h) (Or.inl ⟨by kernel_rfl, fun W hSW => by go_simp; try with_reducible rfl⟩) (by assumption) ?_
            try simp only [List.getElem_toArray]
            try simp only [List.getElem_cons_succ]
            try simp only [List.getElem_cons_zero]
            try simp only [Act.put]
            try simp only [List.setIfInBounds_toArray]
            try simp only [List.set_cons_succ]
            try simp only [List.set_cons_zero]
            refine wpAnyH_take (i := 23) (v := .bool false) rfl (by kernel_rfl) (by kernel_rfl) (by kernel_rfl) (fun _ _ _ h => h) (Or.inl ⟨by kernel_rfl, fun W hSW => by go_simp; try with_reducible rfl⟩) (by assumption) ?_
            try simp only [List.getElem_toArray]
            try simp only [List.getElem_cons_succ]
            try simp only [List.getElem_cons_zero]
            try simp only [Act.put]
            try simp only [List.setIfInBounds_toArray]
            try simp only [List.set_cons_succ]
            try simp only [List.set_cons_zero]
            refine wpAnyH_take (i := 24) (v := .bool false) rfl (by kernel_rfl) (by kernel_rfl) (by kernel_rfl) (fun _ _ _ h => h) (Or.inl ⟨by kernel_rfl, fun W hSW => by go_simp; try with_reducible rfl⟩) (by assumption) ?_
            try simp only [List.getElem_toArray]
            try simp only [List.getElem_cons_succ]
            try simp only [List.getElem_cons_zero]
            try simp only [Act.put]
            try simp only [List.setIfInBounds_toArray]
            try simp only [List.set_cons_succ]
            try simp only [List.set_cons_zero]
            refine wpAnyH_take (i := 25) (v := ?_) rfl (by kernel_rfl) (by kernel_rfl) (by kernel_rfl) (fun _ _ _ h => h) (Or.inl ⟨by kernel_rfl, fun W hSW => by go_simp; try with_reducible rfl⟩) (by assumption) ?_
            try simp only [List.getElem_toArray]
            try simp only [List.getElem_cons_succ]
            try simp only [List.getElem_cons_zero]
            try simp only [Act.put]
            try simp only [List.setIfInBounds_toArray]
            try simp only [List.set_cons_succ]
            try simp only [List.set_cons_zero]
            refine wpAnyH_take (i := 26) (v := ?_) rfl (by kernel_rfl) (by kernel_rfl) (by kernel_rfl) (fun _ _ _ h => h) (Or.inl ⟨by kernel_rfl, fun W hSW => by go_simp; try with_reducible rfl⟩) (by assumption) ?_
            try simp only [List.getElem_toArray]
            try simp only [List.getElem_cons_succ]
            try simp only [List.getElem_cons_zero]
            try simp only [Act.put]
            try simp only [List.setIfInBounds_toArray]
            try simp only [List.set_cons_succ]
            try simp only [List.set_cons_zero]
            refine wpAnyH_ready (rs := [27]) (by kernel_rfl) (by simp) ?_
            refine AllReadyH.cons rfl (fun K hK => ?_) AllReadyH.nil
            go_simp
            refine (HSO.out _ _ _ _ (M23.out.kept K4) (I3.out.kept K4).bel).mono ?_
            rintro e c5 ⟨rfl, hk5⟩
            have K5 := K4.trans hk5
            refine hK.out _ _ (K5) (fun _ => ?_)
            clear hK K
            try simp only [List.getElem_toArray]
            try simp only [List.getElem_cons_succ]
            try simp only [List.getElem_cons_zero]
            try simp only [Act.put]
            try simp only [List.setIfInBounds_toArray]
            try simp only [List.set_cons_succ]
            try simp only [List.set_cons_zero]
            refine wpAnyH_take (i := 28) (v := .bool false) rfl (by kernel_rfl) (by kernel_rfl) (by kernel_rfl) (fun _ _ _ h => h) (Or.inl ⟨by kernel_rfl, fun W hSW => by go_simp; try with_reducible rfl⟩) (by assumption) ?_
            try simp only [List.getElem_toArray]
            try simp only [List.getElem_cons_succ]
            try simp only [List.getElem_cons_zero]
            try simp only [Act.put]
            try simp only [List.setIfInBounds_toArray]
            try simp only [List.set_cons_succ]
            try simp only [List.set_cons_zero]
            refine wpAnyH_take (i := 29) (v := .bool false) rfl (by kernel_rfl) (by kernel_rfl) (by kernel_rfl) (fun _ _ _ h => h) (Or.inl ⟨by kernel_rfl, fun W hSW => by go_simp; try with_reducible rfl⟩) (by assumption) ?_
            try simp only [List.getElem_toArray]
            try simp only [List.getElem_cons_succ]
            try simp only [List.getElem_cons_zero]
            try simp only [Act.put]
            try simp only [List.setIfInBounds_toArray]
            try simp only [List.set_cons_succ]
            try simp only [List.set_cons_zero]
            refine wpAnyH_done (by kernel_rfl) ?_ _
            have I5 := hid (I3.out.kept K5)
            have O5 := hid (O3.out.kept K5)
            have Ou5 := hid (Ou.out.kept K5)
            clear K1 K2 K3 K4 K5 hk1 hk2 hk3 hk4 hk5 r0 r1 r2 r3 r4 D0 I3 O3 Ou M13 M23
            go_wp2_with fail
            refine (I5.out.add (M := c5.heap.size) (by rw [HLs.out]; omega) (by have := HLn.out; omega) (Nat.le_of_lt HN.out) (OwnO.mono Ou5.out (Nat.le_trans I.out.lt S2.out)) I5.out.lt (Nat.le_refl _) (fun g hg => (own_lt Ou5.out hg).2)).mono ?_
            rintro e d1 ⟨rfl, hT1, hkb1⟩
            have T1 := hid hT1
            have Y1 := hid (O5.out.book hkb1)
            have HM : Hid (w.heap.size < c5.heap.size) := Nat.lt_of_lt_of_le HN.out I5.out.lt
            clear hT1 hkb1
            go_wp2
            exact ⟨⟨j + 1, Ls ++ [want], c5.heap.size, by omega, by go_num, by rw [List.length_append, HLs.out]; rfl, HM.out, T1.out, Y1.out⟩, by simp [intOf]; omega⟩
          · obtain rfl : j = 2 := by omega
            have hj2z : ¬ ((2 : Nat) : Int) < 2 := by omega
            have I := hid HI.out.2.2.1
            have HLs := hid HI.out.1
            clear HI
            as_aux_lemma =>
              go_wp2_with fail
              refine (Ha.out _).mono ?_
              rintro e a1 ⟨rfl, k1⟩
              have I1 := hid (I.out.kept k1)
              clear k1
              go_wp2_with fail
              refine (I1.out.apart (by rw [HLs.out]; omega)).mono ?_
              rintro e a2 ⟨rfl, hb2⟩
              go_wp2
              go_ret
              exact ⟨rfl, hb2⟩
end Go.Proofs.YtodgkmjiiijfpaaGreat
