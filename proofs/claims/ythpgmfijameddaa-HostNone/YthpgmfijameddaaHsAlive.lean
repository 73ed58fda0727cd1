/- The laws' own alive: it returns true. -/
import Derived.Test.YthpgmfijameddaaHsKit
namespace Go.Proofs.Ythpgmfijameddaa
open Go.RowKit

def IsW (w W : World) : Prop := W = w

theorem fA_cells : frList fA = [.int .u8 255, .int .u8 255, .int .u8 255, .int .u8 255, .int .u8 255, .int .u8 255, .int .u8 1, .int .u8 0, .int .u8 0, .int .u8 0, .int .u8 0, .int .u8 0, .int .i64 34915, .string ⟨#[17, 9, 0, 0, 0, 9, 1, 1, 0, 0, 1, 3, 0, 1, 117]⟩] := rfl

set_option maxHeartbeats 4000000 in
set_option maxRecDepth 100000 in
theorem alive_any (w : World) : Calls Try.prog 7 #[] w fun e w' => e = .returned (.bool true) ∧ Kept (fun _ => False) w w' := by
  have q1 := mac_eq9 everyF everyF rfl rfl
  have q2 := mac_eq9 m1 m1 rfl rfl
  have q3 := mac_eq everyF everyF rfl rfl
  rw [decide_eq_true rfl] at q1 q2 q3
  change ∀ W, Sem.run Try.prog (Op.equalIn 9999 23 (.agg #[.int .u8 255, .int .u8 255, .int .u8 255, .int .u8 255, .int .u8 255, .int .u8 255]) (.agg #[.int .u8 255, .int .u8 255, .int .u8 255, .int .u8 255, .int .u8 255, .int .u8 255])) W = .ok true W at q1
  change ∀ W, Sem.run Try.prog (Op.equalIn 9999 23 (.agg #[.int .u8 1, .int .u8 0, .int .u8 0, .int .u8 0, .int .u8 0, .int .u8 0]) (.agg #[.int .u8 1, .int .u8 0, .int .u8 0, .int .u8 0, .int .u8 0, .int .u8 0])) W = .ok true W at q2
  change ∀ W, Sem.run Try.prog (Op.equalIn 10000 23 (.agg #[.int .u8 255, .int .u8 255, .int .u8 255, .int .u8 255, .int .u8 255, .int .u8 255]) (.agg #[.int .u8 255, .int .u8 255, .int .u8 255, .int .u8 255, .int .u8 255, .int .u8 255])) W = .ok true W at q3
  have CK := hid (ck_A 1 2 (by decide) (by decide) (by decide))
  have HN0 := hid (newA 1 2 (by decide) (by decide) (by decide))
  go_enter Try.func7, Try.ntmps7
  go_wp2_with fail
  refine (HN0.out _).mono ?_
  rintro e w1 ⟨B, rfl, h1⟩
  clear HN0
  have H1 := hid h1
  clear h1
  go_wp2_with fail
  refine (H1.out.startBy CK.out.good0 CK.out.start0).mono ?_
  rintro e w2 ⟨p2, c2, rfl, h2⟩
  have H2 := hid h2
  clear h2 H1
  go_wp2_with fail
  refine (H2.out.tickBy (CK.out.good (by decide) (by decide)) (tick_lt (by decide))).mono ?_
  rintro e w3 ⟨p3, c3, rfl, h3⟩
  have H3 := hid h3
  clear h3 H2
  go_wp2_with fail
  refine (H3.out.tickBy (CK.out.good (by decide) (by decide)) (tick_more (by decide) (by decide))).mono ?_
  rintro e w4 ⟨p4, c4, rfl, h4⟩
  have H4 := hid (h4.sub (us := [(.slice p4 1 c4, [fA]), (.slice p3 0 c3, []), (.slice p2 1 c2, [fA])]) (fun p hp => hp))
  clear h4 H3
  go_wp2_with fail
  refine wp_loop_rounds 5 ?_
  rw [rounds_succ]
  go_wp2_with fail
  refine (H4.out.tickBy (CK.out.good (by decide) (by decide)) (tick_lt (by decide))).mono ?_
  rintro e w5 ⟨p5, c5, rfl, h5⟩
  have H5 := hid (h5.sub (us := [(.slice p4 1 c4, [fA]), (.slice p3 0 c3, []), (.slice p2 1 c2, [fA])]) (fun p hp => by simp only [List.mem_cons, List.not_mem_nil, or_false] at hp ⊢; right; exact hp))
  clear h5 H4
  go_wp2_with fail
  rw [rounds_succ]
  go_wp2_with fail
  refine (H5.out.tickBy (CK.out.good (by decide) (by decide)) (tick_lt (by decide))).mono ?_
  rintro e w6 ⟨p6, c6, rfl, h6⟩
  have H6 := hid (h6.sub (us := [(.slice p4 1 c4, [fA]), (.slice p3 0 c3, []), (.slice p2 1 c2, [fA])]) (fun p hp => by simp only [List.mem_cons, List.not_mem_nil, or_false] at hp ⊢; right; exact hp))
  clear h6 H5
  go_wp2_with fail
  rw [rounds_succ]
  go_wp2_with fail
  refine (H6.out.tickBy (CK.out.good (by decide) (by decide)) (tick_lt (by decide))).mono ?_
  rintro e w7 ⟨p7, c7, rfl, h7⟩
  have H7 := hid (h7.sub (us := [(.slice p4 1 c4, [fA]), (.slice p3 0 c3, []), (.slice p2 1 c2, [fA])]) (fun p hp => by simp only [List.mem_cons, List.not_mem_nil, or_false] at hp ⊢; right; exact hp))
  clear h7 H6
  go_wp2_with fail
  rw [rounds_succ]
  go_wp2_with fail
  refine (H7.out.tickBy (CK.out.good (by decide) (by decide)) (tick_last (by decide) (by decide))).mono ?_
  rintro e w8 ⟨p8, c8, rfl, h8⟩
  have H8 := hid (h8.sub (us := [(.slice p4 1 c4, [fA]), (.slice p3 0 c3, []), (.slice p2 1 c2, [fA])]) (fun p hp => by simp only [List.mem_cons, List.not_mem_nil, or_false] at hp ⊢; right; exact hp))
  clear h8 H7
  go_wp2_with fail
  rw [rounds_succ]
  go_wp2_with fail
  refine (H8.out.stateBy CK.out.goodF rfl (st := 4) (ss := 0) rfl rfl).mono ?_
  rintro e w9 ⟨rfl, h9⟩
  obtain ⟨w10, hw10⟩ : ∃ w10, w10 = w9.alloc (.cells #[.int .u8 0, .int .u8 0, .int .u8 0, .int .u8 0, .int .u8 0, .int .u8 0] 23) := ⟨_, rfl⟩
  have Hw := hid hw10
  have h10 : HSt w w10 B (hfail m1 eB uB 1 2) [(.slice p4 1 c4, [fA]), (.slice p3 0 c3, []), (.slice p2 1 c2, [fA])] := by rw [hw10]; exact h9.still ((Kept.refl _ w9).alloc _)
  have HK := hid h10.kept
  obtain ⟨g4, cap4, e4, l4, y4⟩ := (h10.own (v := .slice p4 1 c4) (l := [fA]) (by simp)).first
  obtain ⟨g2, cap2, e2, l2, y2⟩ := (h10.own (v := .slice p2 1 c2) (l := [fA]) (by simp)).first
  simp only [Value.slice.injEq, true_and] at e4 e2
  obtain ⟨rfl, rfl⟩ := e4
  obtain ⟨rfl, rfl⟩ := e2
  rw [fA_cells] at y4 y2
  clear hw10 h9 h10 H8 CK
  have s4_0 : ∀ W, IsW w10.drew W → W.cell? ⟨g4, 0, none⟩ = some (.int .u8 255) := fun W h => by rw [show W = w10.drew from h]; exact y4 0 _ (by decide) rfl
  have s4_1 : ∀ W, IsW w10.drew W → W.cell? ⟨g4, 1, none⟩ = some (.int .u8 255) := fun W h => by rw [show W = w10.drew from h]; exact y4 1 _ (by decide) rfl
  have s4_2 : ∀ W, IsW w10.drew W → W.cell? ⟨g4, 2, none⟩ = some (.int .u8 255) := fun W h => by rw [show W = w10.drew from h]; exact y4 2 _ (by decide) rfl
  have s4_3 : ∀ W, IsW w10.drew W → W.cell? ⟨g4, 3, none⟩ = some (.int .u8 255) := fun W h => by rw [show W = w10.drew from h]; exact y4 3 _ (by decide) rfl
  have s4_4 : ∀ W, IsW w10.drew W → W.cell? ⟨g4, 4, none⟩ = some (.int .u8 255) := fun W h => by rw [show W = w10.drew from h]; exact y4 4 _ (by decide) rfl
  have s4_5 : ∀ W, IsW w10.drew W → W.cell? ⟨g4, 5, none⟩ = some (.int .u8 255) := fun W h => by rw [show W = w10.drew from h]; exact y4 5 _ (by decide) rfl
  have s4_6 : ∀ W, IsW w10.drew W → W.cell? ⟨g4, 6, none⟩ = some (.int .u8 1) := fun W h => by rw [show W = w10.drew from h]; exact y4 6 _ (by decide) rfl
  have s4_7 : ∀ W, IsW w10.drew W → W.cell? ⟨g4, 7, none⟩ = some (.int .u8 0) := fun W h => by rw [show W = w10.drew from h]; exact y4 7 _ (by decide) rfl
  have s4_8 : ∀ W, IsW w10.drew W → W.cell? ⟨g4, 8, none⟩ = some (.int .u8 0) := fun W h => by rw [show W = w10.drew from h]; exact y4 8 _ (by decide) rfl
  have s4_9 : ∀ W, IsW w10.drew W → W.cell? ⟨g4, 9, none⟩ = some (.int .u8 0) := fun W h => by rw [show W = w10.drew from h]; exact y4 9 _ (by decide) rfl
  have s4_10 : ∀ W, IsW w10.drew W → W.cell? ⟨g4, 10, none⟩ = some (.int .u8 0) := fun W h => by rw [show W = w10.drew from h]; exact y4 10 _ (by decide) rfl
  have s4_11 : ∀ W, IsW w10.drew W → W.cell? ⟨g4, 11, none⟩ = some (.int .u8 0) := fun W h => by rw [show W = w10.drew from h]; exact y4 11 _ (by decide) rfl
  have s4_12 : ∀ W, IsW w10.drew W → W.cell? ⟨g4, 12, none⟩ = some (.int .i64 34915) := fun W h => by rw [show W = w10.drew from h]; exact y4 12 _ (by decide) rfl
  have s4_13 : ∀ W, IsW w10.drew W → W.cell? ⟨g4, 13, none⟩ = some (.string ⟨#[17, 9, 0, 0, 0, 9, 1, 1, 0, 0, 1, 3, 0, 1, 117]⟩) := fun W h => by rw [show W = w10.drew from h]; exact y4 13 _ (by decide) rfl
  have s2_0 : ∀ W, IsW w10.drew W → W.cell? ⟨g2, 0, none⟩ = some (.int .u8 255) := fun W h => by rw [show W = w10.drew from h]; exact y2 0 _ (by decide) rfl
  have s2_1 : ∀ W, IsW w10.drew W → W.cell? ⟨g2, 1, none⟩ = some (.int .u8 255) := fun W h => by rw [show W = w10.drew from h]; exact y2 1 _ (by decide) rfl
  have s2_2 : ∀ W, IsW w10.drew W → W.cell? ⟨g2, 2, none⟩ = some (.int .u8 255) := fun W h => by rw [show W = w10.drew from h]; exact y2 2 _ (by decide) rfl
  have s2_3 : ∀ W, IsW w10.drew W → W.cell? ⟨g2, 3, none⟩ = some (.int .u8 255) := fun W h => by rw [show W = w10.drew from h]; exact y2 3 _ (by decide) rfl
  have s2_4 : ∀ W, IsW w10.drew W → W.cell? ⟨g2, 4, none⟩ = some (.int .u8 255) := fun W h => by rw [show W = w10.drew from h]; exact y2 4 _ (by decide) rfl
  have s2_5 : ∀ W, IsW w10.drew W → W.cell? ⟨g2, 5, none⟩ = some (.int .u8 255) := fun W h => by rw [show W = w10.drew from h]; exact y2 5 _ (by decide) rfl
  have s2_6 : ∀ W, IsW w10.drew W → W.cell? ⟨g2, 6, none⟩ = some (.int .u8 1) := fun W h => by rw [show W = w10.drew from h]; exact y2 6 _ (by decide) rfl
  have s2_7 : ∀ W, IsW w10.drew W → W.cell? ⟨g2, 7, none⟩ = some (.int .u8 0) := fun W h => by rw [show W = w10.drew from h]; exact y2 7 _ (by decide) rfl
  have s2_8 : ∀ W, IsW w10.drew W → W.cell? ⟨g2, 8, none⟩ = some (.int .u8 0) := fun W h => by rw [show W = w10.drew from h]; exact y2 8 _ (by decide) rfl
  have s2_9 : ∀ W, IsW w10.drew W → W.cell? ⟨g2, 9, none⟩ = some (.int .u8 0) := fun W h => by rw [show W = w10.drew from h]; exact y2 9 _ (by decide) rfl
  have s2_10 : ∀ W, IsW w10.drew W → W.cell? ⟨g2, 10, none⟩ = some (.int .u8 0) := fun W h => by rw [show W = w10.drew from h]; exact y2 10 _ (by decide) rfl
  have s2_11 : ∀ W, IsW w10.drew W → W.cell? ⟨g2, 11, none⟩ = some (.int .u8 0) := fun W h => by rw [show W = w10.drew from h]; exact y2 11 _ (by decide) rfl
  have s2_12 : ∀ W, IsW w10.drew W → W.cell? ⟨g2, 12, none⟩ = some (.int .i64 34915) := fun W h => by rw [show W = w10.drew from h]; exact y2 12 _ (by decide) rfl
  have s2_13 : ∀ W, IsW w10.drew W → W.cell? ⟨g2, 13, none⟩ = some (.string ⟨#[17, 9, 0, 0, 0, 9, 1, 1, 0, 0, 1, 3, 0, 1, 117]⟩) := fun W h => by rw [show W = w10.drew from h]; exact y2 13 _ (by decide) rfl
  clear y4 y2
  go_wp2_with fail
  rw [← Hw.out]
  refine wp_region_held_drew (S := IsW w10.drew) (by kernel_rfl) (rfl) (fun hSd => ?_)
  refine wpAnyH_take (i := 0) (v := ?_) rfl (by kernel_rfl) (by kernel_rfl) (by kernel_rfl) (fun _ _ _ h => h) (Or.inl ⟨by kernel_rfl, fun W hSW => by go_simp; try with_reducible rfl⟩) (by assumption) ?_
  try simp only [List.getElem_toArray]
  try simp only [List.getElem_cons_succ]
  try simp only [List.getElem_cons_zero]
  try simp only [Act.put]
  try simp only [List.setIfInBounds_toArray]
  try simp only [List.set_cons_succ]
  try simp only [List.set_cons_zero]
  refine wpAnyH_take (i := 1) (v := ?_) rfl (by kernel_rfl) (by kernel_rfl) (by kernel_rfl) (fun _ _ _ h => h) (Or.inl ⟨by kernel_rfl, fun W hSW => by go_simp; try with_reducible rfl⟩) (by assumption) ?_
  try simp only [List.getElem_toArray]
  try simp only [List.getElem_cons_succ]
  try simp only [List.getElem_cons_zero]
  try simp only [Act.put]
  try simp only [List.setIfInBounds_toArray]
  try simp only [List.set_cons_succ]
  try simp only [List.set_cons_zero]
  refine wpAnyH_take (i := 2) (v := (.bool true)) rfl (by kernel_rfl) (by kernel_rfl) (by kernel_rfl) (fun _ _ _ h => h) (Or.inl ⟨by kernel_rfl, fun W hSW => by go_simp; try with_reducible rfl⟩) (by assumption) ?_
  try simp only [List.getElem_toArray]
  try simp only [List.getElem_cons_succ]
  try simp only [List.getElem_cons_zero]
  try simp only [Act.put]
  try simp only [List.setIfInBounds_toArray]
  try simp only [List.set_cons_succ]
  try simp only [List.set_cons_zero]
  refine wpAnyH_take (i := 3) (v := (.bool true)) rfl (by kernel_rfl) (by kernel_rfl) (by kernel_rfl) (fun _ _ _ h => h) (Or.inl ⟨by kernel_rfl, fun W hSW => by go_simp; try with_reducible rfl⟩) (by assumption) ?_
  try simp only [List.getElem_toArray]
  try simp only [List.getElem_cons_succ]
  try simp only [List.getElem_cons_zero]
  try simp only [Act.put]
  try simp only [List.setIfInBounds_toArray]
  try simp only [List.set_cons_succ]
  try simp only [List.set_cons_zero]
  refine wpAnyH_take (i := 4) (v := ?_) rfl (by kernel_rfl) (by kernel_rfl) (by kernel_rfl) (fun _ _ _ h => h) (Or.inl ⟨by kernel_rfl, fun W hSW => by go_simp; try with_reducible rfl⟩) (by assumption) ?_
  try simp only [List.getElem_toArray]
  try simp only [List.getElem_cons_succ]
  try simp only [List.getElem_cons_zero]
  try simp only [Act.put]
  try simp only [List.setIfInBounds_toArray]
  try simp only [List.set_cons_succ]
  try simp only [List.set_cons_zero]
  refine wpAnyH_take (i := 5) (v := ?_) rfl (by kernel_rfl) (by kernel_rfl) (by kernel_rfl) (fun _ _ _ h => h) (Or.inl ⟨by kernel_rfl, fun W hSW => by go_simp; try with_reducible rfl⟩) (by assumption) ?_
  try simp only [List.getElem_toArray]
  try simp only [List.getElem_cons_succ]
  try simp only [List.getElem_cons_zero]
  try simp only [Act.put]
  try simp only [List.setIfInBounds_toArray]
  try simp only [List.set_cons_succ]
  try simp only [List.set_cons_zero]
  refine wpAnyH_take (i := 6) (v := (.bool true)) rfl (by kernel_rfl) (by kernel_rfl) (by kernel_rfl) (fun _ _ _ h => h) (Or.inl ⟨by kernel_rfl, fun W hSW => by go_simp; try with_reducible rfl⟩) (by assumption) ?_
  try simp only [List.getElem_toArray]
  try simp only [List.getElem_cons_succ]
  try simp only [List.getElem_cons_zero]
  try simp only [Act.put]
  try simp only [List.setIfInBounds_toArray]
  try simp only [List.set_cons_succ]
  try simp only [List.set_cons_zero]
  refine wpAnyH_take (i := 7) (v := (.bool true)) rfl (by kernel_rfl) (by kernel_rfl) (by kernel_rfl) (fun _ _ _ h => h) (Or.inl ⟨by kernel_rfl, fun W hSW => by go_simp; try with_reducible rfl⟩) (by assumption) ?_
  try simp only [List.getElem_toArray]
  try simp only [List.getElem_cons_succ]
  try simp only [List.getElem_cons_zero]
  try simp only [Act.put]
  try simp only [List.setIfInBounds_toArray]
  try simp only [List.set_cons_succ]
  try simp only [List.set_cons_zero]
  refine wpAnyH_take (i := 8) (v := (.bool true)) rfl (by kernel_rfl) (by kernel_rfl) (by kernel_rfl) (fun _ _ _ h => h) (Or.inl ⟨by kernel_rfl, fun W hSW => by go_simp; try with_reducible rfl⟩) (by assumption) ?_
  try simp only [List.getElem_toArray]
  try simp only [List.getElem_cons_succ]
  try simp only [List.getElem_cons_zero]
  try simp only [Act.put]
  try simp only [List.setIfInBounds_toArray]
  try simp only [List.set_cons_succ]
  try simp only [List.set_cons_zero]
  refine wpAnyH_take (i := 9) (v := ?_) rfl (by kernel_rfl) (by kernel_rfl) (by kernel_rfl) (fun _ _ _ h => h) (Or.inl ⟨by kernel_rfl, fun W hSW => by go_simp; try with_reducible rfl⟩) (by assumption) ?_
  try simp only [List.getElem_toArray]
  try simp only [List.getElem_cons_succ]
  try simp only [List.getElem_cons_zero]
  try simp only [Act.put]
  try simp only [List.setIfInBounds_toArray]
  try simp only [List.set_cons_succ]
  try simp only [List.set_cons_zero]
  refine wpAnyH_take (i := 10) (v := ?_) rfl (by kernel_rfl) (by kernel_rfl) (by kernel_rfl) (fun _ _ _ h => h) (Or.inl ⟨by kernel_rfl, fun W hSW => by go_simp; try with_reducible rfl⟩) (by assumption) ?_
  try simp only [List.getElem_toArray]
  try simp only [List.getElem_cons_succ]
  try simp only [List.getElem_cons_zero]
  try simp only [Act.put]
  try simp only [List.setIfInBounds_toArray]
  try simp only [List.set_cons_succ]
  try simp only [List.set_cons_zero]
  refine wpAnyH_take (i := 11) (v := (.bool true)) rfl (by kernel_rfl) (by kernel_rfl) (by kernel_rfl) (fun _ _ _ h => h) (Or.inl ⟨by kernel_rfl, fun W hSW => by go_simp; try with_reducible rfl⟩) (by assumption) ?_
  try simp only [List.getElem_toArray]
  try simp only [List.getElem_cons_succ]
  try simp only [List.getElem_cons_zero]
  try simp only [Act.put]
  try simp only [List.setIfInBounds_toArray]
  try simp only [List.set_cons_succ]
  try simp only [List.set_cons_zero]
  refine wpAnyH_take (i := 12) (v := (.bool true)) rfl (by kernel_rfl) (by kernel_rfl) (by kernel_rfl) (fun _ _ _ h => h) (Or.inl ⟨by kernel_rfl, fun W hSW => by go_simp; try with_reducible rfl⟩) (by assumption) ?_
  try simp only [List.getElem_toArray]
  try simp only [List.getElem_cons_succ]
  try simp only [List.getElem_cons_zero]
  try simp only [Act.put]
  try simp only [List.setIfInBounds_toArray]
  try simp only [List.set_cons_succ]
  try simp only [List.set_cons_zero]
  refine wpAnyH_take (i := 13) (v := (.bool true)) rfl (by kernel_rfl) (by kernel_rfl) (by kernel_rfl) (fun _ _ _ h => h) (Or.inl ⟨by kernel_rfl, fun W hSW => by go_simp; try with_reducible rfl⟩) (by assumption) ?_
  try simp only [List.getElem_toArray]
  try simp only [List.getElem_cons_succ]
  try simp only [List.getElem_cons_zero]
  try simp only [Act.put]
  try simp only [List.setIfInBounds_toArray]
  try simp only [List.set_cons_succ]
  try simp only [List.set_cons_zero]
  refine wpAnyH_take (i := 14) (v := ?_) rfl (by kernel_rfl) (by kernel_rfl) (by kernel_rfl) (fun _ _ _ h => h) (Or.inl ⟨by kernel_rfl, fun W hSW => by go_simp; try with_reducible rfl⟩) (by assumption) ?_
  try simp only [List.getElem_toArray]
  try simp only [List.getElem_cons_succ]
  try simp only [List.getElem_cons_zero]
  try simp only [Act.put]
  try simp only [List.setIfInBounds_toArray]
  try simp only [List.set_cons_succ]
  try simp only [List.set_cons_zero]
  refine wpAnyH_take (i := 15) (v := ?_) rfl (by kernel_rfl) (by kernel_rfl) (by kernel_rfl) (fun _ _ _ h => h) (Or.inl ⟨by kernel_rfl, fun W hSW => by go_simp; try with_reducible rfl⟩) (by assumption) ?_
  try simp only [List.getElem_toArray]
  try simp only [List.getElem_cons_succ]
  try simp only [List.getElem_cons_zero]
  try simp only [Act.put]
  try simp only [List.setIfInBounds_toArray]
  try simp only [List.set_cons_succ]
  try simp only [List.set_cons_zero]
  refine wpAnyH_take (i := 16) (v := ?_) rfl (by kernel_rfl) (by kernel_rfl) (by kernel_rfl) (fun _ _ _ h => h) (Or.inl ⟨by kernel_rfl, fun W hSW => by go_simp; try with_reducible rfl⟩) (by assumption) ?_
  try simp only [List.getElem_toArray]
  try simp only [List.getElem_cons_succ]
  try simp only [List.getElem_cons_zero]
  try simp only [Act.put]
  try simp only [List.setIfInBounds_toArray]
  try simp only [List.set_cons_succ]
  try simp only [List.set_cons_zero]
  refine wpAnyH_take (i := 17) (v := ?_) rfl (by kernel_rfl) (by kernel_rfl) (by kernel_rfl) (fun _ _ _ h => h) (Or.inl ⟨by kernel_rfl, fun W hSW => by go_simp; try with_reducible rfl⟩) (by assumption) ?_
  try simp only [List.getElem_toArray]
  try simp only [List.getElem_cons_succ]
  try simp only [List.getElem_cons_zero]
  try simp only [Act.put]
  try simp only [List.setIfInBounds_toArray]
  try simp only [List.set_cons_succ]
  try simp only [List.set_cons_zero]
  refine wpAnyH_take (i := 18) (v := ?_) rfl (by kernel_rfl) (by kernel_rfl) (by kernel_rfl) (fun _ _ _ h => h) (Or.inl ⟨by kernel_rfl, fun W hSW => by go_simp; try with_reducible rfl⟩) (by assumption) ?_
  try simp only [List.getElem_toArray]
  try simp only [List.getElem_cons_succ]
  try simp only [List.getElem_cons_zero]
  try simp only [Act.put]
  try simp only [List.setIfInBounds_toArray]
  try simp only [List.set_cons_succ]
  try simp only [List.set_cons_zero]
  refine wpAnyH_take (i := 19) (v := ?_) rfl (by kernel_rfl) (by kernel_rfl) (by kernel_rfl) (fun _ _ _ h => h) (Or.inl ⟨by kernel_rfl, fun W hSW => by go_simp; try with_reducible rfl⟩) (by assumption) ?_
  try simp only [List.getElem_toArray]
  try simp only [List.getElem_cons_succ]
  try simp only [List.getElem_cons_zero]
  try simp only [Act.put]
  try simp only [List.setIfInBounds_toArray]
  try simp only [List.set_cons_succ]
  try simp only [List.set_cons_zero]
  refine wpAnyH_take (i := 20) (v := (.bool true)) rfl (by kernel_rfl) (by kernel_rfl) (by kernel_rfl) (fun _ _ _ h => h) (Or.inl ⟨by kernel_rfl, fun W hSW => by go_simp; try with_reducible rfl⟩) (by assumption) ?_
  try simp only [List.getElem_toArray]
  try simp only [List.getElem_cons_succ]
  try simp only [List.getElem_cons_zero]
  try simp only [Act.put]
  try simp only [List.setIfInBounds_toArray]
  try simp only [List.set_cons_succ]
  try simp only [List.set_cons_zero]
  refine wpAnyH_take (i := 21) (v := (.bool true)) rfl (by kernel_rfl) (by kernel_rfl) (by kernel_rfl) (fun _ _ _ h => h) (Or.inl ⟨by kernel_rfl, fun W hSW => by go_simp; try with_reducible rfl⟩) (by assumption) ?_
  try simp only [List.getElem_toArray]
  try simp only [List.getElem_cons_succ]
  try simp only [List.getElem_cons_zero]
  try simp only [Act.put]
  try simp only [List.setIfInBounds_toArray]
  try simp only [List.set_cons_succ]
  try simp only [List.set_cons_zero]
  refine wpAnyH_take (i := 22) (v := (.bool true)) rfl (by kernel_rfl) (by kernel_rfl) (by kernel_rfl) (fun _ _ _ h => h) (Or.inl ⟨by kernel_rfl, fun W hSW => by go_simp; try with_reducible rfl⟩) (by assumption) ?_
  try simp only [List.getElem_toArray]
  try simp only [List.getElem_cons_succ]
  try simp only [List.getElem_cons_zero]
  try simp only [Act.put]
  try simp only [List.setIfInBounds_toArray]
  try simp only [List.set_cons_succ]
  try simp only [List.set_cons_zero]
  refine wpAnyH_take (i := 23) (v := ?_) rfl (by kernel_rfl) (by kernel_rfl) (by kernel_rfl) (fun _ _ _ h => h) (Or.inl ⟨by kernel_rfl, fun W hSW => by go_simp; try with_reducible rfl⟩) (by assumption) ?_
  try simp only [List.getElem_toArray]
  try simp only [List.getElem_cons_succ]
  try simp only [List.getElem_cons_zero]
  try simp only [Act.put]
  try simp only [List.setIfInBounds_toArray]
  try simp only [List.set_cons_succ]
  try simp only [List.set_cons_zero]
  refine wpAnyH_take (i := 24) (v := ?_) rfl (by kernel_rfl) (by kernel_rfl) (by kernel_rfl) (fun _ _ _ h => h) (Or.inl ⟨by kernel_rfl, fun W hSW => by go_simp; try with_reducible rfl⟩) (by assumption) ?_
  try simp only [List.getElem_toArray]
  try simp only [List.getElem_cons_succ]
  try simp only [List.getElem_cons_zero]
  try simp only [Act.put]
  try simp only [List.setIfInBounds_toArray]
  try simp only [List.set_cons_succ]
  try simp only [List.set_cons_zero]
  refine wpAnyH_take (i := 25) (v := ?_) rfl (by kernel_rfl) (by kernel_rfl) (by kernel_rfl) (fun _ _ _ h => h) (Or.inl ⟨by kernel_rfl, fun W hSW => by go_simp; try with_reducible rfl⟩) (by assumption) ?_
  try simp only [List.getElem_toArray]
  try simp only [List.getElem_cons_succ]
  try simp only [List.getElem_cons_zero]
  try simp only [Act.put]
  try simp only [List.setIfInBounds_toArray]
  try simp only [List.set_cons_succ]
  try simp only [List.set_cons_zero]
  refine wpAnyH_take (i := 26) (v := ?_) rfl (by kernel_rfl) (by kernel_rfl) (by kernel_rfl) (fun _ _ _ h => h) (Or.inl ⟨by kernel_rfl, fun W hSW => by go_simp; try with_reducible rfl⟩) (by assumption) ?_
  try simp only [List.getElem_toArray]
  try simp only [List.getElem_cons_succ]
  try simp only [List.getElem_cons_zero]
  try simp only [Act.put]
  try simp only [List.setIfInBounds_toArray]
  try simp only [List.set_cons_succ]
  try simp only [List.set_cons_zero]
  refine wpAnyH_take (i := 27) (v := ?_) rfl (by kernel_rfl) (by kernel_rfl) (by kernel_rfl) (fun _ _ _ h => h) (Or.inl ⟨by kernel_rfl, fun W hSW => by go_simp; try with_reducible rfl⟩) (by assumption) ?_
  try simp only [List.getElem_toArray]
  try simp only [List.getElem_cons_succ]
  try simp only [List.getElem_cons_zero]
  try simp only [Act.put]
  try simp only [List.setIfInBounds_toArray]
  try simp only [List.set_cons_succ]
  try simp only [List.set_cons_zero]
  refine wpAnyH_take (i := 28) (v := (.bool true)) rfl (by kernel_rfl) (by kernel_rfl) (by kernel_rfl) (fun _ _ _ h => h) (Or.inl ⟨by kernel_rfl, fun W hSW => by go_simp; try with_reducible rfl⟩) (by assumption) ?_
  try simp only [List.getElem_toArray]
  try simp only [List.getElem_cons_succ]
  try simp only [List.getElem_cons_zero]
  try simp only [Act.put]
  try simp only [List.setIfInBounds_toArray]
  try simp only [List.set_cons_succ]
  try simp only [List.set_cons_zero]
  refine wpAnyH_take (i := 29) (v := (.bool true)) rfl (by kernel_rfl) (by kernel_rfl) (by kernel_rfl) (fun _ _ _ h => h) (Or.inl ⟨by kernel_rfl, fun W hSW => by go_simp; try with_reducible rfl⟩) (by assumption) ?_
  try simp only [List.getElem_toArray]
  try simp only [List.getElem_cons_succ]
  try simp only [List.getElem_cons_zero]
  try simp only [Act.put]
  try simp only [List.setIfInBounds_toArray]
  try simp only [List.set_cons_succ]
  try simp only [List.set_cons_zero]
  refine wpAnyH_take (i := 30) (v := (.bool true)) rfl (by kernel_rfl) (by kernel_rfl) (by kernel_rfl) (fun _ _ _ h => h) (Or.inl ⟨by kernel_rfl, fun W hSW => by go_simp; try with_reducible rfl⟩) (by assumption) ?_
  try simp only [List.getElem_toArray]
  try simp only [List.getElem_cons_succ]
  try simp only [List.getElem_cons_zero]
  try simp only [Act.put]
  try simp only [List.setIfInBounds_toArray]
  try simp only [List.set_cons_succ]
  try simp only [List.set_cons_zero]
  refine wpAnyH_take (i := 31) (v := ?_) rfl (by kernel_rfl) (by kernel_rfl) (by kernel_rfl) (fun _ _ _ h => h) (Or.inl ⟨by kernel_rfl, fun W hSW => by go_simp; try with_reducible rfl⟩) (by assumption) ?_
  try simp only [List.getElem_toArray]
  try simp only [List.getElem_cons_succ]
  try simp only [List.getElem_cons_zero]
  try simp only [Act.put]
  try simp only [List.setIfInBounds_toArray]
  try simp only [List.set_cons_succ]
  try simp only [List.set_cons_zero]
  refine wpAnyH_take (i := 32) (v := (.bool true)) rfl (by kernel_rfl) (by kernel_rfl) (by kernel_rfl) (fun _ _ _ h => h) (Or.inl ⟨by kernel_rfl, fun W hSW => by go_simp; try with_reducible rfl⟩) (by assumption) ?_
  try simp only [List.getElem_toArray]
  try simp only [List.getElem_cons_succ]
  try simp only [List.getElem_cons_zero]
  try simp only [Act.put]
  try simp only [List.setIfInBounds_toArray]
  try simp only [List.set_cons_succ]
  try simp only [List.set_cons_zero]
  refine wpAnyH_take (i := 33) (v := (.bool true)) rfl (by kernel_rfl) (by kernel_rfl) (by kernel_rfl) (fun _ _ _ h => h) (Or.inl ⟨by kernel_rfl, fun W hSW => by go_simp; try with_reducible rfl⟩) (by assumption) ?_
  try simp only [List.getElem_toArray]
  try simp only [List.getElem_cons_succ]
  try simp only [List.getElem_cons_zero]
  try simp only [Act.put]
  try simp only [List.setIfInBounds_toArray]
  try simp only [List.set_cons_succ]
  try simp only [List.set_cons_zero]
  refine wpAnyH_take (i := 34) (v := ?_) rfl (by kernel_rfl) (by kernel_rfl) (by kernel_rfl) (fun _ _ _ h => h) (Or.inl ⟨by kernel_rfl, fun W hSW => by go_simp; try with_reducible rfl⟩) (by assumption) ?_
  try simp only [List.getElem_toArray]
  try simp only [List.getElem_cons_succ]
  try simp only [List.getElem_cons_zero]
  try simp only [Act.put]
  try simp only [List.setIfInBounds_toArray]
  try simp only [List.set_cons_succ]
  try simp only [List.set_cons_zero]
  refine wpAnyH_done (by kernel_rfl) ?_ _
  go_wp2
  go_ret
  exact ⟨rfl, HK.out.drew⟩
end Go.Proofs.Ythpgmfijameddaa
