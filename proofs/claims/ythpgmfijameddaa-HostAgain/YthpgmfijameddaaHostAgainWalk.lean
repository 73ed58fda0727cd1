/- The law HostAgain: it returns true for every three numbers, and leaves what was there. -/
import Derived.Test.YthpgmfijameddaaHsAlive
namespace Go.Proofs.Ythpgmfijameddaa
open Go.RowKit

theorem fE_cells : frList fE = [.int .u8 255, .int .u8 255, .int .u8 255, .int .u8 255, .int .u8 255, .int .u8 255, .int .u8 1, .int .u8 0, .int .u8 0, .int .u8 0, .int .u8 0, .int .u8 0, .int .i64 34915, .string ⟨#[17, 9, 0, 0, 0, 4, 1, 1, 0, 0]⟩] := rfl

theorem hostAgain_out (r t n : Int) (h : (decide (r < 0) || decide (5 < r) || decide (t < 1) || decide (20 < t) || decide (n < 0) || decide (t ≤ n)) = true) (w : World) : Calls Try.prog 6 #[.int .i64 r, .int .i64 t, .int .i64 n] w fun e w' => e = .returned (.bool true) ∧ Below w.heap.size w w' := by
  have Ha := hid alive_any
  by_cases h0 : r < 0
  · go_enter Try.func6, Try.ntmps6
    go_wp2_with (go_at_call 7; refine (Ha.out _).mono ?_; rintro e w' ⟨rfl, hk⟩)
    go_ret
    exact ⟨rfl, below_of hk⟩
  · by_cases h1 : 5 < r
    · go_enter Try.func6, Try.ntmps6
      go_wp2_with (go_at_call 7; refine (Ha.out _).mono ?_; rintro e w' ⟨rfl, hk⟩)
      go_ret
      exact ⟨rfl, below_of hk⟩
    · by_cases h2 : t < 1
      · go_enter Try.func6, Try.ntmps6
        go_wp2_with (go_at_call 7; refine (Ha.out _).mono ?_; rintro e w' ⟨rfl, hk⟩)
        go_ret
        exact ⟨rfl, below_of hk⟩
      · by_cases h3 : 20 < t
        · go_enter Try.func6, Try.ntmps6
          go_wp2_with (go_at_call 7; refine (Ha.out _).mono ?_; rintro e w' ⟨rfl, hk⟩)
          go_ret
          exact ⟨rfl, below_of hk⟩
        · by_cases h4 : n < 0
          · go_enter Try.func6, Try.ntmps6
            go_wp2_with (go_at_call 7; refine (Ha.out _).mono ?_; rintro e w' ⟨rfl, hk⟩)
            go_ret
            exact ⟨rfl, below_of hk⟩
          · have h5 : t ≤ n := by simp [h0, h1, h2, h3, h4] at h; exact h
            go_enter Try.func6, Try.ntmps6
            go_wp2_with (go_at_call 7; refine (Ha.out _).mono ?_; rintro e w' ⟨rfl, hk⟩)
            go_ret
            exact ⟨rfl, below_of hk⟩

set_option maxHeartbeats 4000000 in
set_option maxRecDepth 100000 in
theorem hostAgain_in (r t N : Nat) (hr : r ≤ 5) (h1 : 1 ≤ t) (h2 : t ≤ 20) (hN : N < t) (w : World) : Calls Try.prog 6 #[.int .i64 (r : Int), .int .i64 (t : Int), .int .i64 (N : Int)] w fun e w' => e = .returned (.bool true) ∧ Below w.heap.size w w' := by
  have Ha := hid alive_any
  have CK := hid (ck_E r t (by omega) h1 (by omega))
  have HN0 := hid (newE r t (by omega) h1 (by omega))
  have q1 := mac_eq9 everyF everyF rfl rfl
  have q2 := mac_eq9 m1 m1 rfl rfl
  rw [decide_eq_true rfl] at q1 q2
  change ∀ W, Sem.run Try.prog (Op.equalIn 9999 23 (.agg #[.int .u8 255, .int .u8 255, .int .u8 255, .int .u8 255, .int .u8 255, .int .u8 255]) (.agg #[.int .u8 255, .int .u8 255, .int .u8 255, .int .u8 255, .int .u8 255, .int .u8 255])) W = .ok true W at q1
  change ∀ W, Sem.run Try.prog (Op.equalIn 9999 23 (.agg #[.int .u8 1, .int .u8 0, .int .u8 0, .int .u8 0, .int .u8 0, .int .u8 0]) (.agg #[.int .u8 1, .int .u8 0, .int .u8 0, .int .u8 0, .int .u8 0, .int .u8 0])) W = .ok true W at q2
  have n1 : ¬ ((r : Int) < 0) := by omega
  have n2 : ¬ ((5 : Int) < (r : Int)) := by omega
  have n3 : ¬ ((t : Int) < 1) := by omega
  have n4 : ¬ ((20 : Int) < (t : Int)) := by omega
  have n5 : ¬ ((N : Int) < 0) := by omega
  have n6 : ¬ ((t : Int) ≤ (N : Int)) := by omega
  have ht1 := h1
  clear h1
  go_enter Try.func6, Try.ntmps6
  go_wp2_with fail
  refine (HN0.out _).mono ?_
  rintro e w1 ⟨B, rfl, h1⟩
  clear HN0
  have H1 := hid h1
  clear h1
  go_wp2_with fail
  refine (H1.out.startBy CK.out.good0 CK.out.start0).mono ?_
  rintro e w2 ⟨p2, c2, rfl, h2⟩
  have H2 := hid (h2.sub (us := [(.slice p2 1 c2, [fE])]) (fun p hp => hp))
  clear h2 H1
  go_wp2_with fail
  go_loopw [10] (fun vi wr => ∃ (i : Nat), i ≤ N ∧ vi = .int .i64 (i : Int) ∧ Hid (HSt w wr B (hq m1 eB eB r t fE 0 i) [(.slice p2 1 c2, [fE])])) (fun vi _ => N - (intOf vi).toNat)
  case atStart => exact ⟨0, Nat.zero_le _, rfl, H2.out⟩
  case round =>
    obtain ⟨i, hi, rfl, HS⟩ := hrel
    clear H2
    have hG := hid (CK.out.good (k := 0) (n := i) (Nat.zero_le _) (by simp; omega))
    by_cases hlt : i < N
    · have hltz : (i : Int) < (N : Int) := by omega
      have HT := hid (tick_lt (m := m1) (s := eB) (u := eB) (r := r) (t := t) (f := fE) (k := 0) (n := i) (by simp; omega))
      go_wp2_with fail
      refine (HS.out.tickBy hG.out HT.out).mono ?_
      rintro e w4 ⟨p4, c4, rfl, h4⟩
      have H4 := hid (h4.sub (us := [(.slice p2 1 c2, [fE])]) (fun p hp => by simp only [List.mem_cons, List.not_mem_nil, or_false] at hp ⊢; right; exact hp))
      clear h4 HS
      go_wp2
      go_roundw
      case rel => exact ⟨i + 1, hlt, by go_num, H4.out⟩
      case measure => simp [intOf]; omega
    · obtain rfl : i = N := by omega
      go_wp2_with fail
      refine (HS.out.startBy hG.out start_hq).mono ?_
      rintro e w4 ⟨p4, c4, rfl, h4⟩
      have H4 := hid h4
      clear h4 HS
      go_wp2_with fail
      refine (H4.out.stopBy hG.out stop_hq).mono ?_
      rintro e w5 ⟨p5, c5, rfl, h5⟩
      have H5 := hid h5
      clear h5 H4
      go_wp2_with fail
      refine (H5.out.stateBy CK.out.good0 rfl (st := 0) (ss := 0) rfl rfl).mono ?_
      rintro e w6 ⟨rfl, h6⟩
      have H6 := hid (h6.still ((Kept.refl (fun _ => False) w6).alloc (.cells #[.int .u8 0, .int .u8 0, .int .u8 0, .int .u8 0, .int .u8 0, .int .u8 0] 23)))
      clear h6 H5
      go_wp2_with fail
      refine (H6.out.startBy CK.out.good0 CK.out.start0).mono ?_
      rintro e w7 ⟨p7, c7, rfl, h7⟩
      have H7 := hid (h7.sub (us := [(.slice p7 1 c7, [fE]), (.slice p2 1 c2, [fE])]) (fun p hp => by simp only [List.mem_cons, List.not_mem_nil, or_false] at hp ⊢; rcases hp with rfl | rfl; exact Or.inl rfl; right; right; right; rfl))
      clear h7 H6
      go_wp2_with fail
      obtain ⟨g7, cap7, e7, l7, y7⟩ := (H7.out.own (v := .slice p7 1 c7) (l := [fE]) (by simp)).first
      obtain ⟨g2, cap2, e2, l2, y2⟩ := (H7.out.own (v := .slice p2 1 c2) (l := [fE]) (by simp)).first
      simp only [Value.slice.injEq, true_and] at e7 e2
      obtain ⟨rfl, rfl⟩ := e7
      obtain ⟨rfl, rfl⟩ := e2
      rw [fE_cells] at y7 y2
      have s7_0 : ∀ W, Kept (fun _ => False) w7 W → W.cell? ⟨g7, 0, none⟩ = some (.int .u8 255) := fun W h => (h.cell (p := ⟨g7, 0, none⟩) (lt_of_cell (y7 0 _ (by decide) rfl)) id).trans (y7 0 _ (by decide) rfl)
      have s7_1 : ∀ W, Kept (fun _ => False) w7 W → W.cell? ⟨g7, 1, none⟩ = some (.int .u8 255) := fun W h => (h.cell (p := ⟨g7, 1, none⟩) (lt_of_cell (y7 1 _ (by decide) rfl)) id).trans (y7 1 _ (by decide) rfl)
      have s7_2 : ∀ W, Kept (fun _ => False) w7 W → W.cell? ⟨g7, 2, none⟩ = some (.int .u8 255) := fun W h => (h.cell (p := ⟨g7, 2, none⟩) (lt_of_cell (y7 2 _ (by decide) rfl)) id).trans (y7 2 _ (by decide) rfl)
      have s7_3 : ∀ W, Kept (fun _ => False) w7 W → W.cell? ⟨g7, 3, none⟩ = some (.int .u8 255) := fun W h => (h.cell (p := ⟨g7, 3, none⟩) (lt_of_cell (y7 3 _ (by decide) rfl)) id).trans (y7 3 _ (by decide) rfl)
      have s7_4 : ∀ W, Kept (fun _ => False) w7 W → W.cell? ⟨g7, 4, none⟩ = some (.int .u8 255) := fun W h => (h.cell (p := ⟨g7, 4, none⟩) (lt_of_cell (y7 4 _ (by decide) rfl)) id).trans (y7 4 _ (by decide) rfl)
      have s7_5 : ∀ W, Kept (fun _ => False) w7 W → W.cell? ⟨g7, 5, none⟩ = some (.int .u8 255) := fun W h => (h.cell (p := ⟨g7, 5, none⟩) (lt_of_cell (y7 5 _ (by decide) rfl)) id).trans (y7 5 _ (by decide) rfl)
      have s7_6 : ∀ W, Kept (fun _ => False) w7 W → W.cell? ⟨g7, 6, none⟩ = some (.int .u8 1) := fun W h => (h.cell (p := ⟨g7, 6, none⟩) (lt_of_cell (y7 6 _ (by decide) rfl)) id).trans (y7 6 _ (by decide) rfl)
      have s7_7 : ∀ W, Kept (fun _ => False) w7 W → W.cell? ⟨g7, 7, none⟩ = some (.int .u8 0) := fun W h => (h.cell (p := ⟨g7, 7, none⟩) (lt_of_cell (y7 7 _ (by decide) rfl)) id).trans (y7 7 _ (by decide) rfl)
      have s7_8 : ∀ W, Kept (fun _ => False) w7 W → W.cell? ⟨g7, 8, none⟩ = some (.int .u8 0) := fun W h => (h.cell (p := ⟨g7, 8, none⟩) (lt_of_cell (y7 8 _ (by decide) rfl)) id).trans (y7 8 _ (by decide) rfl)
      have s7_9 : ∀ W, Kept (fun _ => False) w7 W → W.cell? ⟨g7, 9, none⟩ = some (.int .u8 0) := fun W h => (h.cell (p := ⟨g7, 9, none⟩) (lt_of_cell (y7 9 _ (by decide) rfl)) id).trans (y7 9 _ (by decide) rfl)
      have s7_10 : ∀ W, Kept (fun _ => False) w7 W → W.cell? ⟨g7, 10, none⟩ = some (.int .u8 0) := fun W h => (h.cell (p := ⟨g7, 10, none⟩) (lt_of_cell (y7 10 _ (by decide) rfl)) id).trans (y7 10 _ (by decide) rfl)
      have s7_11 : ∀ W, Kept (fun _ => False) w7 W → W.cell? ⟨g7, 11, none⟩ = some (.int .u8 0) := fun W h => (h.cell (p := ⟨g7, 11, none⟩) (lt_of_cell (y7 11 _ (by decide) rfl)) id).trans (y7 11 _ (by decide) rfl)
      have s7_12 : ∀ W, Kept (fun _ => False) w7 W → W.cell? ⟨g7, 12, none⟩ = some (.int .i64 34915) := fun W h => (h.cell (p := ⟨g7, 12, none⟩) (lt_of_cell (y7 12 _ (by decide) rfl)) id).trans (y7 12 _ (by decide) rfl)
      have s7_13 : ∀ W, Kept (fun _ => False) w7 W → W.cell? ⟨g7, 13, none⟩ = some (.string ⟨#[17, 9, 0, 0, 0, 4, 1, 1, 0, 0]⟩) := fun W h => (h.cell (p := ⟨g7, 13, none⟩) (lt_of_cell (y7 13 _ (by decide) rfl)) id).trans (y7 13 _ (by decide) rfl)
      have s2_0 : ∀ W, Kept (fun _ => False) w7 W → W.cell? ⟨g2, 0, none⟩ = some (.int .u8 255) := fun W h => (h.cell (p := ⟨g2, 0, none⟩) (lt_of_cell (y2 0 _ (by decide) rfl)) id).trans (y2 0 _ (by decide) rfl)
      have s2_1 : ∀ W, Kept (fun _ => False) w7 W → W.cell? ⟨g2, 1, none⟩ = some (.int .u8 255) := fun W h => (h.cell (p := ⟨g2, 1, none⟩) (lt_of_cell (y2 1 _ (by decide) rfl)) id).trans (y2 1 _ (by decide) rfl)
      have s2_2 : ∀ W, Kept (fun _ => False) w7 W → W.cell? ⟨g2, 2, none⟩ = some (.int .u8 255) := fun W h => (h.cell (p := ⟨g2, 2, none⟩) (lt_of_cell (y2 2 _ (by decide) rfl)) id).trans (y2 2 _ (by decide) rfl)
      have s2_3 : ∀ W, Kept (fun _ => False) w7 W → W.cell? ⟨g2, 3, none⟩ = some (.int .u8 255) := fun W h => (h.cell (p := ⟨g2, 3, none⟩) (lt_of_cell (y2 3 _ (by decide) rfl)) id).trans (y2 3 _ (by decide) rfl)
      have s2_4 : ∀ W, Kept (fun _ => False) w7 W → W.cell? ⟨g2, 4, none⟩ = some (.int .u8 255) := fun W h => (h.cell (p := ⟨g2, 4, none⟩) (lt_of_cell (y2 4 _ (by decide) rfl)) id).trans (y2 4 _ (by decide) rfl)
      have s2_5 : ∀ W, Kept (fun _ => False) w7 W → W.cell? ⟨g2, 5, none⟩ = some (.int .u8 255) := fun W h => (h.cell (p := ⟨g2, 5, none⟩) (lt_of_cell (y2 5 _ (by decide) rfl)) id).trans (y2 5 _ (by decide) rfl)
      have s2_6 : ∀ W, Kept (fun _ => False) w7 W → W.cell? ⟨g2, 6, none⟩ = some (.int .u8 1) := fun W h => (h.cell (p := ⟨g2, 6, none⟩) (lt_of_cell (y2 6 _ (by decide) rfl)) id).trans (y2 6 _ (by decide) rfl)
      have s2_7 : ∀ W, Kept (fun _ => False) w7 W → W.cell? ⟨g2, 7, none⟩ = some (.int .u8 0) := fun W h => (h.cell (p := ⟨g2, 7, none⟩) (lt_of_cell (y2 7 _ (by decide) rfl)) id).trans (y2 7 _ (by decide) rfl)
      have s2_8 : ∀ W, Kept (fun _ => False) w7 W → W.cell? ⟨g2, 8, none⟩ = some (.int .u8 0) := fun W h => (h.cell (p := ⟨g2, 8, none⟩) (lt_of_cell (y2 8 _ (by decide) rfl)) id).trans (y2 8 _ (by decide) rfl)
      have s2_9 : ∀ W, Kept (fun _ => False) w7 W → W.cell? ⟨g2, 9, none⟩ = some (.int .u8 0) := fun W h => (h.cell (p := ⟨g2, 9, none⟩) (lt_of_cell (y2 9 _ (by decide) rfl)) id).trans (y2 9 _ (by decide) rfl)
      have s2_10 : ∀ W, Kept (fun _ => False) w7 W → W.cell? ⟨g2, 10, none⟩ = some (.int .u8 0) := fun W h => (h.cell (p := ⟨g2, 10, none⟩) (lt_of_cell (y2 10 _ (by decide) rfl)) id).trans (y2 10 _ (by decide) rfl)
      have s2_11 : ∀ W, Kept (fun _ => False) w7 W → W.cell? ⟨g2, 11, none⟩ = some (.int .u8 0) := fun W h => (h.cell (p := ⟨g2, 11, none⟩) (lt_of_cell (y2 11 _ (by decide) rfl)) id).trans (y2 11 _ (by decide) rfl)
      have s2_12 : ∀ W, Kept (fun _ => False) w7 W → W.cell? ⟨g2, 12, none⟩ = some (.int .i64 34915) := fun W h => (h.cell (p := ⟨g2, 12, none⟩) (lt_of_cell (y2 12 _ (by decide) rfl)) id).trans (y2 12 _ (by decide) rfl)
      have s2_13 : ∀ W, Kept (fun _ => False) w7 W → W.cell? ⟨g2, 13, none⟩ = some (.string ⟨#[17, 9, 0, 0, 0, 4, 1, 1, 0, 0]⟩) := fun W h => (h.cell (p := ⟨g2, 13, none⟩) (lt_of_cell (y2 13 _ (by decide) rfl)) id).trans (y2 13 _ (by decide) rfl)
      have HKK := hid H7.out.kept
      clear y7 y2 H7 CK hG
      refine wp_region_held_drew (S := Kept (fun _ => False) w7) (by kernel_rfl) ((Kept.refl _ w7).drew) (fun hSd => ?_)
      refine wpAnyH_ready (rs := [0]) (by kernel_rfl) (by simp) ?_
      refine AllReadyH.cons rfl (fun K hK => ?_) AllReadyH.nil
      go_simp
      refine (Ha.out _).mono ?_
      rintro e w8 ⟨rfl, hk8⟩
      have K8 : Kept (fun _ => False) w7 w8 := (Kept.refl (fun _ => False) w7).drew.trans hk8
      refine hK.out _ _ (K8) (fun _ => ?_)
      clear hK K
      try simp only [List.getElem_toArray]
      try simp only [List.getElem_cons_succ]
      try simp only [List.getElem_cons_zero]
      try simp only [Act.put]
      try simp only [List.setIfInBounds_toArray]
      try simp only [List.set_cons_succ]
      try simp only [List.set_cons_zero]
      refine wpAnyH_take (i := 1) (v := (.bool true)) rfl (by kernel_rfl) (by kernel_rfl) (by kernel_rfl) (fun _ _ _ h => h) (Or.inl ⟨by kernel_rfl, fun W hSW => by go_simp; try with_reducible rfl⟩) (by assumption) ?_
      try simp only [List.getElem_toArray]
      try simp only [List.getElem_cons_succ]
      try simp only [List.getElem_cons_zero]
      try simp only [Act.put]
      try simp only [List.setIfInBounds_toArray]
      try simp only [List.set_cons_succ]
      try simp only [List.set_cons_zero]
      refine wpAnyH_take (i := 2) (v := ?_) rfl (by kernel_rfl) (by kernel_rfl) (by kernel_rfl) (fun _ _ _ h => h) (Or.inl ⟨by kernel_rfl, fun W hSW => by go_simp; try with_reducible rfl⟩) (by assumption) ?_
      try simp only [List.getElem_toArray]
      try simp only [List.getElem_cons_succ]
      try simp only [List.getElem_cons_zero]
      try simp only [Act.put]
      try simp only [List.setIfInBounds_toArray]
      try simp only [List.set_cons_succ]
      try simp only [List.set_cons_zero]
      refine wpAnyH_take (i := 3) (v := ?_) rfl (by kernel_rfl) (by kernel_rfl) (by kernel_rfl) (fun _ _ _ h => h) (Or.inl ⟨by kernel_rfl, fun W hSW => by go_simp; try with_reducible rfl⟩) (by assumption) ?_
      try simp only [List.getElem_toArray]
      try simp only [List.getElem_cons_succ]
      try simp only [List.getElem_cons_zero]
      try simp only [Act.put]
      try simp only [List.setIfInBounds_toArray]
      try simp only [List.set_cons_succ]
      try simp only [List.set_cons_zero]
      refine wpAnyH_take (i := 4) (v := (.bool true)) rfl (by kernel_rfl) (by kernel_rfl) (by kernel_rfl) (fun _ _ _ h => h) (Or.inl ⟨by kernel_rfl, fun W hSW => by go_simp; try with_reducible rfl⟩) (by assumption) ?_
      try simp only [List.getElem_toArray]
      try simp only [List.getElem_cons_succ]
      try simp only [List.getElem_cons_zero]
      try simp only [Act.put]
      try simp only [List.setIfInBounds_toArray]
      try simp only [List.set_cons_succ]
      try simp only [List.set_cons_zero]
      refine wpAnyH_take (i := 5) (v := (.bool true)) rfl (by kernel_rfl) (by kernel_rfl) (by kernel_rfl) (fun _ _ _ h => h) (Or.inl ⟨by kernel_rfl, fun W hSW => by go_simp; try with_reducible rfl⟩) (by assumption) ?_
      try simp only [List.getElem_toArray]
      try simp only [List.getElem_cons_succ]
      try simp only [List.getElem_cons_zero]
      try simp only [Act.put]
      try simp only [List.setIfInBounds_toArray]
      try simp only [List.set_cons_succ]
      try simp only [List.set_cons_zero]
      refine wpAnyH_take (i := 6) (v := (.bool true)) rfl (by kernel_rfl) (by kernel_rfl) (by kernel_rfl) (fun _ _ _ h => h) (Or.inl ⟨by kernel_rfl, fun W hSW => by go_simp; try with_reducible rfl⟩) (by assumption) ?_
      try simp only [List.getElem_toArray]
      try simp only [List.getElem_cons_succ]
      try simp only [List.getElem_cons_zero]
      try simp only [Act.put]
      try simp only [List.setIfInBounds_toArray]
      try simp only [List.set_cons_succ]
      try simp only [List.set_cons_zero]
      refine wpAnyH_take (i := 7) (v := ?_) rfl (by kernel_rfl) (by kernel_rfl) (by kernel_rfl) (fun _ _ _ h => h) (Or.inl ⟨by kernel_rfl, fun W hSW => by go_simp; try with_reducible rfl⟩) (by assumption) ?_
      try simp only [List.getElem_toArray]
      try simp only [List.getElem_cons_succ]
      try simp only [List.getElem_cons_zero]
      try simp only [Act.put]
      try simp only [List.setIfInBounds_toArray]
      try simp only [List.set_cons_succ]
      try simp only [List.set_cons_zero]
      refine wpAnyH_take (i := 8) (v := ?_) rfl (by kernel_rfl) (by kernel_rfl) (by kernel_rfl) (fun _ _ _ h => h) (Or.inl ⟨by kernel_rfl, fun W hSW => by go_simp; try with_reducible rfl⟩) (by assumption) ?_
      try simp only [List.getElem_toArray]
      try simp only [List.getElem_cons_succ]
      try simp only [List.getElem_cons_zero]
      try simp only [Act.put]
      try simp only [List.setIfInBounds_toArray]
      try simp only [List.set_cons_succ]
      try simp only [List.set_cons_zero]
      refine wpAnyH_take (i := 9) (v := (.bool true)) rfl (by kernel_rfl) (by kernel_rfl) (by kernel_rfl) (fun _ _ _ h => h) (Or.inl ⟨by kernel_rfl, fun W hSW => by go_simp; try with_reducible rfl⟩) (by assumption) ?_
      try simp only [List.getElem_toArray]
      try simp only [List.getElem_cons_succ]
      try simp only [List.getElem_cons_zero]
      try simp only [Act.put]
      try simp only [List.setIfInBounds_toArray]
      try simp only [List.set_cons_succ]
      try simp only [List.set_cons_zero]
      refine wpAnyH_take (i := 10) (v := (.bool true)) rfl (by kernel_rfl) (by kernel_rfl) (by kernel_rfl) (fun _ _ _ h => h) (Or.inl ⟨by kernel_rfl, fun W hSW => by go_simp; try with_reducible rfl⟩) (by assumption) ?_
      try simp only [List.getElem_toArray]
      try simp only [List.getElem_cons_succ]
      try simp only [List.getElem_cons_zero]
      try simp only [Act.put]
      try simp only [List.setIfInBounds_toArray]
      try simp only [List.set_cons_succ]
      try simp only [List.set_cons_zero]
      refine wpAnyH_take (i := 11) (v := (.bool true)) rfl (by kernel_rfl) (by kernel_rfl) (by kernel_rfl) (fun _ _ _ h => h) (Or.inl ⟨by kernel_rfl, fun W hSW => by go_simp; try with_reducible rfl⟩) (by assumption) ?_
      try simp only [List.getElem_toArray]
      try simp only [List.getElem_cons_succ]
      try simp only [List.getElem_cons_zero]
      try simp only [Act.put]
      try simp only [List.setIfInBounds_toArray]
      try simp only [List.set_cons_succ]
      try simp only [List.set_cons_zero]
      refine wpAnyH_take (i := 12) (v := ?_) rfl (by kernel_rfl) (by kernel_rfl) (by kernel_rfl) (fun _ _ _ h => h) (Or.inl ⟨by kernel_rfl, fun W hSW => by go_simp; try with_reducible rfl⟩) (by assumption) ?_
      try simp only [List.getElem_toArray]
      try simp only [List.getElem_cons_succ]
      try simp only [List.getElem_cons_zero]
      try simp only [Act.put]
      try simp only [List.setIfInBounds_toArray]
      try simp only [List.set_cons_succ]
      try simp only [List.set_cons_zero]
      refine wpAnyH_take (i := 13) (v := ?_) rfl (by kernel_rfl) (by kernel_rfl) (by kernel_rfl) (fun _ _ _ h => h) (Or.inl ⟨by kernel_rfl, fun W hSW => by go_simp; try with_reducible rfl⟩) (by assumption) ?_
      try simp only [List.getElem_toArray]
      try simp only [List.getElem_cons_succ]
      try simp only [List.getElem_cons_zero]
      try simp only [Act.put]
      try simp only [List.setIfInBounds_toArray]
      try simp only [List.set_cons_succ]
      try simp only [List.set_cons_zero]
      refine wpAnyH_take (i := 14) (v := (.bool true)) rfl (by kernel_rfl) (by kernel_rfl) (by kernel_rfl) (fun _ _ _ h => h) (Or.inl ⟨by kernel_rfl, fun W hSW => by go_simp; try with_reducible rfl⟩) (by assumption) ?_
      try simp only [List.getElem_toArray]
      try simp only [List.getElem_cons_succ]
      try simp only [List.getElem_cons_zero]
      try simp only [Act.put]
      try simp only [List.setIfInBounds_toArray]
      try simp only [List.set_cons_succ]
      try simp only [List.set_cons_zero]
      refine wpAnyH_take (i := 15) (v := (.bool true)) rfl (by kernel_rfl) (by kernel_rfl) (by kernel_rfl) (fun _ _ _ h => h) (Or.inl ⟨by kernel_rfl, fun W hSW => by go_simp; try with_reducible rfl⟩) (by assumption) ?_
      try simp only [List.getElem_toArray]
      try simp only [List.getElem_cons_succ]
      try simp only [List.getElem_cons_zero]
      try simp only [Act.put]
      try simp only [List.setIfInBounds_toArray]
      try simp only [List.set_cons_succ]
      try simp only [List.set_cons_zero]
      refine wpAnyH_take (i := 16) (v := (.bool true)) rfl (by kernel_rfl) (by kernel_rfl) (by kernel_rfl) (fun _ _ _ h => h) (Or.inl ⟨by kernel_rfl, fun W hSW => by go_simp; try with_reducible rfl⟩) (by assumption) ?_
      try simp only [List.getElem_toArray]
      try simp only [List.getElem_cons_succ]
      try simp only [List.getElem_cons_zero]
      try simp only [Act.put]
      try simp only [List.setIfInBounds_toArray]
      try simp only [List.set_cons_succ]
      try simp only [List.set_cons_zero]
      refine wpAnyH_take (i := 17) (v := ?_) rfl (by kernel_rfl) (by kernel_rfl) (by kernel_rfl) (fun _ _ _ h => h) (Or.inl ⟨by kernel_rfl, fun W hSW => by go_simp; try with_reducible rfl⟩) (by assumption) ?_
      try simp only [List.getElem_toArray]
      try simp only [List.getElem_cons_succ]
      try simp only [List.getElem_cons_zero]
      try simp only [Act.put]
      try simp only [List.setIfInBounds_toArray]
      try simp only [List.set_cons_succ]
      try simp only [List.set_cons_zero]
      refine wpAnyH_take (i := 18) (v := (.bool true)) rfl (by kernel_rfl) (by kernel_rfl) (by kernel_rfl) (fun _ _ _ h => h) (Or.inl ⟨by kernel_rfl, fun W hSW => by go_simp; try with_reducible rfl⟩) (by assumption) ?_
      try simp only [List.getElem_toArray]
      try simp only [List.getElem_cons_succ]
      try simp only [List.getElem_cons_zero]
      try simp only [Act.put]
      try simp only [List.setIfInBounds_toArray]
      try simp only [List.set_cons_succ]
      try simp only [List.set_cons_zero]
      refine wpAnyH_take (i := 19) (v := (.bool true)) rfl (by kernel_rfl) (by kernel_rfl) (by kernel_rfl) (fun _ _ _ h => h) (Or.inl ⟨by kernel_rfl, fun W hSW => by go_simp; try with_reducible rfl⟩) (by assumption) ?_
      try simp only [List.getElem_toArray]
      try simp only [List.getElem_cons_succ]
      try simp only [List.getElem_cons_zero]
      try simp only [Act.put]
      try simp only [List.setIfInBounds_toArray]
      try simp only [List.set_cons_succ]
      try simp only [List.set_cons_zero]
      refine wpAnyH_take (i := 20) (v := (.bool true)) rfl (by kernel_rfl) (by kernel_rfl) (by kernel_rfl) (fun _ _ _ h => h) (Or.inl ⟨by kernel_rfl, fun W hSW => by go_simp; try with_reducible rfl⟩) (by assumption) ?_
      try simp only [List.getElem_toArray]
      try simp only [List.getElem_cons_succ]
      try simp only [List.getElem_cons_zero]
      try simp only [Act.put]
      try simp only [List.setIfInBounds_toArray]
      try simp only [List.set_cons_succ]
      try simp only [List.set_cons_zero]
      refine wpAnyH_take (i := 21) (v := ?_) rfl (by kernel_rfl) (by kernel_rfl) (by kernel_rfl) (fun _ _ _ h => h) (Or.inl ⟨by kernel_rfl, fun W hSW => by go_simp; try with_reducible rfl⟩) (by assumption) ?_
      try simp only [List.getElem_toArray]
      try simp only [List.getElem_cons_succ]
      try simp only [List.getElem_cons_zero]
      try simp only [Act.put]
      try simp only [List.setIfInBounds_toArray]
      try simp only [List.set_cons_succ]
      try simp only [List.set_cons_zero]
      refine wpAnyH_take (i := 22) (v := ?_) rfl (by kernel_rfl) (by kernel_rfl) (by kernel_rfl) (fun _ _ _ h => h) (Or.inl ⟨by kernel_rfl, fun W hSW => by go_simp; try with_reducible rfl⟩) (by assumption) ?_
      try simp only [List.getElem_toArray]
      try simp only [List.getElem_cons_succ]
      try simp only [List.getElem_cons_zero]
      try simp only [Act.put]
      try simp only [List.setIfInBounds_toArray]
      try simp only [List.set_cons_succ]
      try simp only [List.set_cons_zero]
      refine wpAnyH_take (i := 23) (v := (.bool true)) rfl (by kernel_rfl) (by kernel_rfl) (by kernel_rfl) (fun _ _ _ h => h) (Or.inl ⟨by kernel_rfl, fun W hSW => by go_simp; try with_reducible rfl⟩) (by assumption) ?_
      try simp only [List.getElem_toArray]
      try simp only [List.getElem_cons_succ]
      try simp only [List.getElem_cons_zero]
      try simp only [Act.put]
      try simp only [List.setIfInBounds_toArray]
      try simp only [List.set_cons_succ]
      try simp only [List.set_cons_zero]
      refine wpAnyH_take (i := 24) (v := (.bool true)) rfl (by kernel_rfl) (by kernel_rfl) (by kernel_rfl) (fun _ _ _ h => h) (Or.inl ⟨by kernel_rfl, fun W hSW => by go_simp; try with_reducible rfl⟩) (by assumption) ?_
      try simp only [List.getElem_toArray]
      try simp only [List.getElem_cons_succ]
      try simp only [List.getElem_cons_zero]
      try simp only [Act.put]
      try simp only [List.setIfInBounds_toArray]
      try simp only [List.set_cons_succ]
      try simp only [List.set_cons_zero]
      refine wpAnyH_take (i := 25) (v := (.bool true)) rfl (by kernel_rfl) (by kernel_rfl) (by kernel_rfl) (fun _ _ _ h => h) (Or.inl ⟨by kernel_rfl, fun W hSW => by go_simp; try with_reducible rfl⟩) (by assumption) ?_
      try simp only [List.getElem_toArray]
      try simp only [List.getElem_cons_succ]
      try simp only [List.getElem_cons_zero]
      try simp only [Act.put]
      try simp only [List.setIfInBounds_toArray]
      try simp only [List.set_cons_succ]
      try simp only [List.set_cons_zero]
      refine wpAnyH_take (i := 26) (v := ?_) rfl (by kernel_rfl) (by kernel_rfl) (by kernel_rfl) (fun _ _ _ h => h) (Or.inl ⟨by kernel_rfl, fun W hSW => by go_simp; try with_reducible rfl⟩) (by assumption) ?_
      try simp only [List.getElem_toArray]
      try simp only [List.getElem_cons_succ]
      try simp only [List.getElem_cons_zero]
      try simp only [Act.put]
      try simp only [List.setIfInBounds_toArray]
      try simp only [List.set_cons_succ]
      try simp only [List.set_cons_zero]
      refine wpAnyH_take (i := 27) (v := ?_) rfl (by kernel_rfl) (by kernel_rfl) (by kernel_rfl) (fun _ _ _ h => h) (Or.inl ⟨by kernel_rfl, fun W hSW => by go_simp; try with_reducible rfl⟩) (by assumption) ?_
      try simp only [List.getElem_toArray]
      try simp only [List.getElem_cons_succ]
      try simp only [List.getElem_cons_zero]
      try simp only [Act.put]
      try simp only [List.setIfInBounds_toArray]
      try simp only [List.set_cons_succ]
      try simp only [List.set_cons_zero]
      refine wpAnyH_take (i := 28) (v := ?_) rfl (by kernel_rfl) (by kernel_rfl) (by kernel_rfl) (fun _ _ _ h => h) (Or.inl ⟨by kernel_rfl, fun W hSW => by go_simp; try with_reducible rfl⟩) (by assumption) ?_
      try simp only [List.getElem_toArray]
      try simp only [List.getElem_cons_succ]
      try simp only [List.getElem_cons_zero]
      try simp only [Act.put]
      try simp only [List.setIfInBounds_toArray]
      try simp only [List.set_cons_succ]
      try simp only [List.set_cons_zero]
      refine wpAnyH_take (i := 29) (v := ?_) rfl (by kernel_rfl) (by kernel_rfl) (by kernel_rfl) (fun _ _ _ h => h) (Or.inl ⟨by kernel_rfl, fun W hSW => by go_simp; try with_reducible rfl⟩) (by assumption) ?_
      try simp only [List.getElem_toArray]
      try simp only [List.getElem_cons_succ]
      try simp only [List.getElem_cons_zero]
      try simp only [Act.put]
      try simp only [List.setIfInBounds_toArray]
      try simp only [List.set_cons_succ]
      try simp only [List.set_cons_zero]
      refine wpAnyH_take (i := 30) (v := ?_) rfl (by kernel_rfl) (by kernel_rfl) (by kernel_rfl) (fun _ _ _ h => h) (Or.inl ⟨by kernel_rfl, fun W hSW => by go_simp; try with_reducible rfl⟩) (by assumption) ?_
      try simp only [List.getElem_toArray]
      try simp only [List.getElem_cons_succ]
      try simp only [List.getElem_cons_zero]
      try simp only [Act.put]
      try simp only [List.setIfInBounds_toArray]
      try simp only [List.set_cons_succ]
      try simp only [List.set_cons_zero]
      refine wpAnyH_take (i := 31) (v := ?_) rfl (by kernel_rfl) (by kernel_rfl) (by kernel_rfl) (fun _ _ _ h => h) (Or.inl ⟨by kernel_rfl, fun W hSW => by go_simp; try with_reducible rfl⟩) (by assumption) ?_
      try simp only [List.getElem_toArray]
      try simp only [List.getElem_cons_succ]
      try simp only [List.getElem_cons_zero]
      try simp only [Act.put]
      try simp only [List.setIfInBounds_toArray]
      try simp only [List.set_cons_succ]
      try simp only [List.set_cons_zero]
      refine wpAnyH_take (i := 32) (v := (.bool true)) rfl (by kernel_rfl) (by kernel_rfl) (by kernel_rfl) (fun _ _ _ h => h) (Or.inl ⟨by kernel_rfl, fun W hSW => by go_simp; try with_reducible rfl⟩) (by assumption) ?_
      try simp only [List.getElem_toArray]
      try simp only [List.getElem_cons_succ]
      try simp only [List.getElem_cons_zero]
      try simp only [Act.put]
      try simp only [List.setIfInBounds_toArray]
      try simp only [List.set_cons_succ]
      try simp only [List.set_cons_zero]
      refine wpAnyH_take (i := 33) (v := (.bool true)) rfl (by kernel_rfl) (by kernel_rfl) (by kernel_rfl) (fun _ _ _ h => h) (Or.inl ⟨by kernel_rfl, fun W hSW => by go_simp; try with_reducible rfl⟩) (by assumption) ?_
      try simp only [List.getElem_toArray]
      try simp only [List.getElem_cons_succ]
      try simp only [List.getElem_cons_zero]
      try simp only [Act.put]
      try simp only [List.setIfInBounds_toArray]
      try simp only [List.set_cons_succ]
      try simp only [List.set_cons_zero]
      refine wpAnyH_take (i := 34) (v := ?_) rfl (by kernel_rfl) (by kernel_rfl) (by kernel_rfl) (fun _ _ _ h => h) (Or.inl ⟨by kernel_rfl, fun W hSW => by go_simp; try with_reducible rfl⟩) (by assumption) ?_
      try simp only [List.getElem_toArray]
      try simp only [List.getElem_cons_succ]
      try simp only [List.getElem_cons_zero]
      try simp only [Act.put]
      try simp only [List.setIfInBounds_toArray]
      try simp only [List.set_cons_succ]
      try simp only [List.set_cons_zero]
      refine wpAnyH_done (by kernel_rfl) ?_ _
      go_wp2
      go_ret
      exact ⟨rfl, below_of (HKK.out.trans K8)⟩

theorem hostAgain_walk (r t n : Int) (w : World) (_ : -9223372036854775808 ≤ r ∧ r ≤ 9223372036854775807) (_ : -9223372036854775808 ≤ t ∧ t ≤ 9223372036854775807) (_ : -9223372036854775808 ≤ n ∧ n ≤ 9223372036854775807) : Calls Try.prog 6 #[.int .i64 r, .int .i64 t, .int .i64 n] w fun e w' => e = .returned (.bool true) ∧ Below w.heap.size w w' := by
  by_cases h : (decide (r < 0) || decide (5 < r) || decide (t < 1) || decide (20 < t) || decide (n < 0) || decide (t ≤ n)) = true
  · exact hostAgain_out r t n h w
  · simp only [Bool.or_eq_true, decide_eq_true_eq, not_or, Int.not_lt, Int.not_le] at h
    obtain ⟨⟨⟨⟨⟨h1, h2⟩, h3⟩, h4⟩, h5⟩, h6⟩ := h
    obtain ⟨a, rfl⟩ := Int.eq_ofNat_of_zero_le h1
    obtain ⟨k, rfl⟩ := Int.eq_ofNat_of_zero_le (show 0 ≤ t by omega)
    obtain ⟨m, rfl⟩ := Int.eq_ofNat_of_zero_le h5
    exact hostAgain_in a k m (by omega) (by omega) (by omega) (by omega) w
end Go.Proofs.Ythpgmfijameddaa
