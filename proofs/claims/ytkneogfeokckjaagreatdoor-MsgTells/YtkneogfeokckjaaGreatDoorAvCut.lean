/- The contract of package avp's inner cut: the value at the front of some bytes, and what is behind it; for every string of at most 2^47 bytes. (Written by gen_avcut.py.) -/
import Derived.Test.YtkneogfeokckjaaGreatDoorAvCover
import Derived.Test.YtkneogfeokckjaaGreatDoorBbSto
import Derived.Deep.DeepCutAuto
import Derived.Deep.CutRange
import Derived.Deep.CutBlock
import Derived.BigQuiet
import Derived.Deep.RegionHeld
namespace Go.Proofs.YtkneogfeokckjaaGreatDoor
open Go.RowKit

theorem infoAv : (Tryz.prog.info? 72).map (fun i => (i.zero, i.size, i.bytes)) = some (some (.agg #[.bool false, .bool false, .int .i64 0, .int .i64 0, .string ⟨#[]⟩]), 5, 40) := by kernel_rfl
theorem avCells_one (x : Av) : ∀ u ∈ avCells x, u.oneCell' = true := by
  intro u hu
  simp only [avCells, List.mem_cons, List.not_mem_nil, or_false] at hu
  rcases hu with rfl | rfl | rfl | rfl | rfl <;> rfl
/-- A value that is stored whole into a box. -/
theorem store_av {W : World} {b : Nat} {y : Av} (h : AvAt W b y) (x : Av) : ∃ W', (Instr.storeAt 72 (.pointer (some ⟨b, 0, none⟩)) (avV x)).run Tryz.prog W = .ok () W' ∧ AvAt W' b x ∧ Kept (fun i => i = b) W W' := by
  obtain ⟨i0, hi, hz0, hz1, hz2⟩ := info_parts infoAv
  have hs := storeB (P := Tryz.prog) (w := W) (g := b) (o := 0) (ty := 72) (avCells x) h (by simp [avCells]) (avCells_one x) (by rw [hi]; simp [avCells, hz1])
  refine ⟨_, hs, ?_, ?_⟩
  · exact setRow_block h _
  · exact (setRow_kept W b _ (n := 0) (cap := 0)).mono (fun i _ e => by simpa [Value.ownBlock, eq_comm] using e)

theorem and_1023 (N : Nat) (h : N < 65536) : bits .and .i64 (N : Int) 1023 = ((N % 1024 : Nat) : Int) := by
  have e := i64_and_nat N 1023 (by omega) (by omega)
  rw [show N &&& 1023 = N % 1024 from Nat.and_two_pow_sub_one_eq_mod (n := 10) N] at e
  exact e
theorem and_15 (N : Nat) (h : N < 65536) : bits .and .i64 ((N : Int) / 1024) 15 = ((N / 1024 % 16 : Nat) : Int) := by
  have e := i64_and_nat (N / 1024) 15 (by omega) (by omega)
  rw [show (N / 1024) &&& 15 = N / 1024 % 16 from Nat.and_two_pow_sub_one_eq_mod (n := 4) (N / 1024)] at e
  exact e
theorem flag_must (N : Nat) (h : N < 65536) : ∃ M : Int, bits .and .i64 ((N : Int) / 32768) 1 = M ∧ (M == 1) = mustB N := by
  refine ⟨_, i64_and_one (N / 32768) (by omega), ?_⟩
  unfold mustB
  rw [Bool.eq_iff_iff, beq_iff_eq, decide_eq_true_iff]
  omega
theorem flag_hid (N : Nat) (h : N < 65536) : ∃ M : Int, bits .and .i64 ((N : Int) / 16384) 1 = M ∧ (M == 1) = hidB N := by
  refine ⟨_, i64_and_one (N / 16384) (by omega), ?_⟩
  unfold hidB
  rw [Bool.eq_iff_iff, beq_iff_eq, decide_eq_true_iff]
  omega

set_option maxHeartbeats 8000000 in
set_option maxRecDepth 100000 in
theorem cut_any (b : ByteArray) (hb : b.size ≤ 140737488351232) (w : World) :
    Calls Tryz.prog 130 #[.string b] w fun e w' => e = .returned (.tuple #[avV (cutF b).1, .string (cutF b).2.1, .int .i64 (cutF b).2.2]) ∧ Kept (fun _ => False) w w' := by
  have HZ : Hid (AvAt (w.alloc (.cells #[.bool false, .bool false, .int .i64 0, .int .i64 0, .string ⟨#[]⟩] 72)) w.heap.size av0) := AvAt.new w av0
  have HK := hid ((Kept.refl (fun _ => False) w).alloc (.cells #[.bool false, .bool false, .int .i64 0, .int .i64 0, .string ⟨#[]⟩] 72))
  unfold cutF
  by_cases h6 : b.size < 6
  · rw [if_pos h6]
    have h6z : (b.size : Int) < 6 := by omega
    clear h6
    go_enter Tryz.func130, Tryz.ntmps130
    go_upto_region 1 with fail
    generalize hW0 : w.alloc (.cells #[.bool false, .bool false, .int .i64 0, .int .i64 0, .string ⟨#[]⟩] 72) = W0 at *
    clear hW0
    obtain ⟨z0, z1, z2, z3, z4⟩ := HZ.out.cells
    have f0 := HZ.out.frozen 0
    have f1 := HZ.out.frozen 1
    have f2 := HZ.out.frozen 2
    have f3 := HZ.out.frozen 3
    have f4 := HZ.out.frozen 4
    unfold av0 at z0 z1 z2 z3 z4
    simp only at z0 z1 z2 z3 z4
    go_wp2
    refine bodyPost_ret (v := .tuple #[avV av0, .string ⟨#[]⟩, .int .i64 5]) (by simp [results, Tryz.results130, go_sem, z0, z1, z2, z3, z4, avV, av0]) rfl ⟨rfl, ?_⟩
    exact ((((HK.out.setCell (Or.inl (Nat.le_refl _)) _).setCell (Or.inl (Nat.le_refl _)) _).setCell (Or.inl (Nat.le_refl _)) _).setCell (Or.inl (Nat.le_refl _)) _).setCell (Or.inl (Nat.le_refl _)) _
  · rw [if_neg h6]
    have h6z : ¬ (b.size : Int) < 6 := by omega
    have HW0 := hid (word_any b 0 hb (by omega))
    have HW2 := hid (word_any b 2 hb (by omega))
    have HW4 := hid (word_any b 4 hb (by omega))
    have hN := numAt_lt b 0
    obtain ⟨N, eN⟩ : ∃ N, N = numAt b 0 := ⟨_, rfl⟩
    obtain ⟨N2, eN2⟩ : ∃ N, N = numAt b 2 := ⟨_, rfl⟩
    obtain ⟨N4, eN4⟩ : ∃ N, N = numAt b 4 := ⟨_, rfl⟩
    rw [← eN] at HW0 hN ⊢
    rw [← eN2] at HW2 ⊢
    rw [← eN4] at HW4 ⊢
    clear eN eN2 eN4
    have a1 := and_1023 N hN
    have a2 := and_15 N hN
    obtain ⟨Mm, m1, m2⟩ := flag_must N hN
    obtain ⟨Mh, q1, q2⟩ := flag_hid N hN
    obtain ⟨L, hL⟩ : ∃ L, L = N % 1024 := ⟨_, rfl⟩
    obtain ⟨G, hG⟩ : ∃ G, G = N / 1024 % 16 := ⟨_, rfl⟩
    rw [← hL] at a1 ⊢
    rw [← hG] at a2 ⊢
    have hL4 : L < 1024 := by omega
    clear hL hG
    by_cases hf : G ≠ 0 ∨ L < 6
    · rw [if_pos hf]
      have hfc : ((G : Int) != 0) = true ∨ (((G : Int) != 0) = false ∧ (L : Int) < 6) := by
        by_cases hg : G = 0
        · refine Or.inr ⟨?_, by omega⟩
          rw [bne_eq_false_iff_eq]
          omega
        · refine Or.inl ?_
          rw [bne_iff_ne]
          omega
      clear hf h6
      rcases hfc with hg | ⟨hg, hl⟩
      · go_enter Tryz.func130, Tryz.ntmps130
        go_upto_region 1 with fail
        generalize hW0 : w.alloc (.cells #[.bool false, .bool false, .int .i64 0, .int .i64 0, .string ⟨#[]⟩] 72) = W0 at *
        clear hW0
        obtain ⟨z0, z1, z2, z3, z4⟩ := HZ.out.cells
        have f0 := HZ.out.frozen 0
        have f1 := HZ.out.frozen 1
        have f2 := HZ.out.frozen 2
        have f3 := HZ.out.frozen 3
        have f4 := HZ.out.frozen 4
        unfold av0 at z0 z1 z2 z3 z4
        simp only at z0 z1 z2 z3 z4
        go_wp2_with fail
        refine (HW0.out _).mono ?_
        rintro e wq ⟨rfl, hw⟩
        rw [hw]
        clear hw wq
        go_wp2
        refine bodyPost_ret (v := .tuple #[avV av0, .string ⟨#[]⟩, .int .i64 4]) (by simp [results, Tryz.results130, go_sem, z0, z1, z2, z3, z4, avV, av0]) rfl ⟨rfl, ?_⟩
        exact ((((HK.out.setCell (Or.inl (Nat.le_refl _)) _).setCell (Or.inl (Nat.le_refl _)) _).setCell (Or.inl (Nat.le_refl _)) _).setCell (Or.inl (Nat.le_refl _)) _).setCell (Or.inl (Nat.le_refl _)) _
      · go_enter Tryz.func130, Tryz.ntmps130
        go_upto_region 1 with fail
        generalize hW0 : w.alloc (.cells #[.bool false, .bool false, .int .i64 0, .int .i64 0, .string ⟨#[]⟩] 72) = W0 at *
        clear hW0
        obtain ⟨z0, z1, z2, z3, z4⟩ := HZ.out.cells
        have f0 := HZ.out.frozen 0
        have f1 := HZ.out.frozen 1
        have f2 := HZ.out.frozen 2
        have f3 := HZ.out.frozen 3
        have f4 := HZ.out.frozen 4
        unfold av0 at z0 z1 z2 z3 z4
        simp only at z0 z1 z2 z3 z4
        go_wp2_with fail
        refine (HW0.out _).mono ?_
        rintro e wq ⟨rfl, hw⟩
        rw [hw]
        clear hw wq
        go_wp2
        refine bodyPost_ret (v := .tuple #[avV av0, .string ⟨#[]⟩, .int .i64 4]) (by simp [results, Tryz.results130, go_sem, z0, z1, z2, z3, z4, avV, av0]) rfl ⟨rfl, ?_⟩
        exact ((((HK.out.setCell (Or.inl (Nat.le_refl _)) _).setCell (Or.inl (Nat.le_refl _)) _).setCell (Or.inl (Nat.le_refl _)) _).setCell (Or.inl (Nat.le_refl _)) _).setCell (Or.inl (Nat.le_refl _)) _
    · rw [if_neg hf]
      have hg : ((G : Int) != 0) = false := by rw [bne_eq_false_iff_eq]; omega
      have hl6 : 6 ≤ L := by omega
      have hl : ¬ (L : Int) < 6 := by omega
      clear hf
      by_cases hs : b.size < L
      · rw [if_pos hs]
        have hsz : (b.size : Int) < (L : Int) := by omega
        go_enter Tryz.func130, Tryz.ntmps130
        go_upto_region 1 with fail
        generalize hW0 : w.alloc (.cells #[.bool false, .bool false, .int .i64 0, .int .i64 0, .string ⟨#[]⟩] 72) = W0 at *
        clear hW0
        obtain ⟨z0, z1, z2, z3, z4⟩ := HZ.out.cells
        have f0 := HZ.out.frozen 0
        have f1 := HZ.out.frozen 1
        have f2 := HZ.out.frozen 2
        have f3 := HZ.out.frozen 3
        have f4 := HZ.out.frozen 4
        unfold av0 at z0 z1 z2 z3 z4
        simp only at z0 z1 z2 z3 z4
        go_wp2_with fail
        refine (HW0.out _).mono ?_
        rintro e wq ⟨rfl, hw⟩
        rw [hw]
        clear hw wq
        go_wp2
        refine bodyPost_ret (v := .tuple #[avV av0, .string ⟨#[]⟩, .int .i64 5]) (by simp [results, Tryz.results130, go_sem, z0, z1, z2, z3, z4, avV, av0]) rfl ⟨rfl, ?_⟩
        exact ((((HK.out.setCell (Or.inl (Nat.le_refl _)) _).setCell (Or.inl (Nat.le_refl _)) _).setCell (Or.inl (Nat.le_refl _)) _).setCell (Or.inl (Nat.le_refl _)) _).setCell (Or.inl (Nat.le_refl _)) _
      · rw [if_neg hs]
        have hsz : ¬ (b.size : Int) < (L : Int) := by omega
        have j1 := mid_at b 6 L (by omega) (by omega) 6 (L : Int) rfl rfl
        have j2 := last_at b L (by omega) (L : Int) rfl
        have hxs : (b.extract 6 L).size = L - 6 := by rw [ByteArray.size_extract]; omega
        obtain ⟨X, hX⟩ : ∃ X, X = b.extract 6 L := ⟨_, rfl⟩
        rw [← hX] at j1 hxs ⊢
        obtain ⟨Y, hY⟩ : ∃ Y, Y = b.extract L b.size := ⟨_, rfl⟩
        rw [← hY] at j2 ⊢
        have HCl : Hid (∀ W, Calls Tryz.prog 54 #[.string X] W fun e w' => e = .returned (.string X) ∧ Kept (fun _ => False) W w') := fun W => (clone_any X W (by omega)).mono fun _ _ ⟨h1, h2⟩ => ⟨h1, kept_of h2⟩
        obtain ⟨mq, emq⟩ : ∃ mq, mq = mustB N := ⟨_, rfl⟩
        obtain ⟨hq, ehq⟩ : ∃ hq, hq = hidB N := ⟨_, rfl⟩
        rw [← emq] at m2 ⊢
        rw [← ehq] at q2 ⊢
        have HMo := hid (mostLaid_any hq)
        clear emq ehq hX hY
        obtain ⟨R, eR⟩ : ∃ R : Av × ByteArray × Int, R = if mostF hq < L - 6 then (av0, ⟨#[]⟩, 2) else (⟨mq, hq, (N2 : Int), (N4 : Int), X⟩, Y, 0) := ⟨_, rfl⟩
        rw [← eR]
        have HR := hid eR
        clear eR
        have HD : Hid ((mostF hq < L - 6 ↔ (mostF hq : Int) < (X.size : Int))) := by
          show _ ↔ _
          omega
        go_enter Tryz.func130, Tryz.ntmps130
        go_upto_region 1 with fail
        generalize hW0 : w.alloc (.cells #[.bool false, .bool false, .int .i64 0, .int .i64 0, .string ⟨#[]⟩] 72) = W0 at *
        clear hW0
        go_wp2_with fail
        refine (HW0.out _).mono ?_
        rintro e wq ⟨rfl, hw⟩
        rw [hw]
        clear hw wq
        go_upto_region 9 with fail
        go_cut [7] from 30 to 46 (fun v wx => ∃ bx, v = .pointer (some ⟨bx, 0, none⟩) ∧ AvAt wx bx ⟨mq, hq, (N2 : Int), (N4 : Int), X⟩ ∧ W0.heap.size ≤ bx ∧ Kept (fun _ => False) W0 wx)
        case first =>
          refine wp_region_held_drew (S := Kept (fun _ => False) W0) (by kernel_rfl) ((Kept.refl _ W0).drew) (fun hSd => ?_)
          refine wpAnyH_take (i := 0) (v := ?_) rfl (by kernel_rfl) (by kernel_rfl) (by kernel_rfl) (fun _ _ _ h => h) (Or.inl ⟨by kernel_rfl, fun W hSW => by go_simp; try with_reducible rfl⟩) (by assumption) ?_
          try simp only [List.getElem_toArray]
          try simp only [List.getElem_cons_succ]
          try simp only [List.getElem_cons_zero]
          try simp only [Act.put]
          try simp only [List.setIfInBounds_toArray]
          try simp only [List.set_cons_succ]
          try simp only [List.set_cons_zero]
          refine wpAnyH_take (i := 1) (v := ?_) rfl (by kernel_rfl) (by kernel_rfl) (by kernel_rfl) (fun _ _ _ h => h) (Or.inl ⟨by kernel_rfl, fun W hSW => by go_simp; try with_reducible rfl⟩) (by assumption) ?_
          try simp only [List.getElem_toArray]
          try simp only [List.getElem_cons_succ]
          try simp only [List.getElem_cons_zero]
          try simp only [Act.put]
          try simp only [List.setIfInBounds_toArray]
          try simp only [List.set_cons_succ]
          try simp only [List.set_cons_zero]
          refine wpAnyH_take (i := 2) (v := ?_) rfl (by kernel_rfl) (by kernel_rfl) (by kernel_rfl) (fun _ _ _ h => h) (Or.inl ⟨by kernel_rfl, fun W hSW => by go_simp; try with_reducible rfl⟩) (by assumption) ?_
          try simp only [List.getElem_toArray]
          try simp only [List.getElem_cons_succ]
          try simp only [List.getElem_cons_zero]
          try simp only [Act.put]
          try simp only [List.setIfInBounds_toArray]
          try simp only [List.set_cons_succ]
          try simp only [List.set_cons_zero]
          refine wpAnyH_take (i := 3) (v := ?_) rfl (by kernel_rfl) (by kernel_rfl) (by kernel_rfl) (fun _ _ _ h => h) (Or.inl ⟨by kernel_rfl, fun W hSW => by go_simp; try with_reducible rfl⟩) (by assumption) ?_
          try simp only [List.getElem_toArray]
          try simp only [List.getElem_cons_succ]
          try simp only [List.getElem_cons_zero]
          try simp only [Act.put]
          try simp only [List.setIfInBounds_toArray]
          try simp only [List.set_cons_succ]
          try simp only [List.set_cons_zero]
          refine wpAnyH_take (i := 4) (v := ?_) rfl (by kernel_rfl) (by kernel_rfl) (by kernel_rfl) (fun _ _ _ h => h) (Or.inl ⟨by kernel_rfl, fun W hSW => by go_simp; try with_reducible rfl⟩) (by assumption) ?_
          try simp only [List.getElem_toArray]
          try simp only [List.getElem_cons_succ]
          try simp only [List.getElem_cons_zero]
          try simp only [Act.put]
          try simp only [List.setIfInBounds_toArray]
          try simp only [List.set_cons_succ]
          try simp only [List.set_cons_zero]
          refine wpAnyH_take (i := 5) (v := ?_) rfl (by kernel_rfl) (by kernel_rfl) (by kernel_rfl) (fun _ _ _ h => h) (Or.inl ⟨by kernel_rfl, fun W hSW => by go_simp; try with_reducible rfl⟩) (by assumption) ?_
          try simp only [List.getElem_toArray]
          try simp only [List.getElem_cons_succ]
          try simp only [List.getElem_cons_zero]
          try simp only [Act.put]
          try simp only [List.setIfInBounds_toArray]
          try simp only [List.set_cons_succ]
          try simp only [List.set_cons_zero]
          refine wpAnyH_take (i := 6) (v := ?_) rfl (by kernel_rfl) (by kernel_rfl) (by kernel_rfl) (fun _ _ _ h => h) (Or.inl ⟨by kernel_rfl, fun W hSW => by go_simp; try with_reducible rfl⟩) (by assumption) ?_
          try simp only [List.getElem_toArray]
          try simp only [List.getElem_cons_succ]
          try simp only [List.getElem_cons_zero]
          try simp only [Act.put]
          try simp only [List.setIfInBounds_toArray]
          try simp only [List.set_cons_succ]
          try simp only [List.set_cons_zero]
          refine wpAnyH_take (i := 7) (v := ?_) rfl (by kernel_rfl) (by kernel_rfl) (by kernel_rfl) (fun _ _ _ h => h) (Or.inl ⟨by kernel_rfl, fun W hSW => by go_simp; try with_reducible rfl⟩) (by assumption) ?_
          try simp only [List.getElem_toArray]
          try simp only [List.getElem_cons_succ]
          try simp only [List.getElem_cons_zero]
          try simp only [Act.put]
          try simp only [List.setIfInBounds_toArray]
          try simp only [List.set_cons_succ]
          try simp only [List.set_cons_zero]
          refine wpAnyH_take (i := 8) (v := ?_) rfl (by kernel_rfl) (by kernel_rfl) (by kernel_rfl) (fun _ _ _ h => h) (Or.inl ⟨by kernel_rfl, fun W hSW => by go_simp; try with_reducible rfl⟩) (by assumption) ?_
          try simp only [List.getElem_toArray]
          try simp only [List.getElem_cons_succ]
          try simp only [List.getElem_cons_zero]
          try simp only [Act.put]
          try simp only [List.setIfInBounds_toArray]
          try simp only [List.set_cons_succ]
          try simp only [List.set_cons_zero]
          refine wpAnyH_take (i := 10) (v := ?_) rfl (by kernel_rfl) (by kernel_rfl) (by kernel_rfl) (fun _ _ _ h => h) (Or.inl ⟨by kernel_rfl, fun W hSW => by go_simp; try with_reducible rfl⟩) (by assumption) ?_
          try simp only [List.getElem_toArray]
          try simp only [List.getElem_cons_succ]
          try simp only [List.getElem_cons_zero]
          try simp only [Act.put]
          try simp only [List.setIfInBounds_toArray]
          try simp only [List.set_cons_succ]
          try simp only [List.set_cons_zero]
          refine wpAnyH_take (i := 12) (v := ?_) rfl (by kernel_rfl) (by kernel_rfl) (by kernel_rfl) (fun _ _ _ h => h) (Or.inl ⟨by kernel_rfl, fun W hSW => by go_simp; try with_reducible rfl⟩) (by assumption) ?_
          try simp only [List.getElem_toArray]
          try simp only [List.getElem_cons_succ]
          try simp only [List.getElem_cons_zero]
          try simp only [Act.put]
          try simp only [List.setIfInBounds_toArray]
          try simp only [List.set_cons_succ]
          try simp only [List.set_cons_zero]
          refine wpAnyH_take (i := 13) (v := ?_) rfl (by kernel_rfl) (by kernel_rfl) (by kernel_rfl) (fun _ _ _ h => h) (Or.inl ⟨by kernel_rfl, fun W hSW => by go_simp; try with_reducible rfl⟩) (by assumption) ?_
          try simp only [List.getElem_toArray]
          try simp only [List.getElem_cons_succ]
          try simp only [List.getElem_cons_zero]
          try simp only [Act.put]
          try simp only [List.setIfInBounds_toArray]
          try simp only [List.set_cons_succ]
          try simp only [List.set_cons_zero]
          refine wpAnyH_take (i := 14) (v := ?_) rfl (by kernel_rfl) (by kernel_rfl) (by kernel_rfl) (fun _ _ _ h => h) (Or.inl ⟨by kernel_rfl, fun W hSW => by go_simp; try with_reducible rfl⟩) (by assumption) ?_
          try simp only [List.getElem_toArray]
          try simp only [List.getElem_cons_succ]
          try simp only [List.getElem_cons_zero]
          try simp only [Act.put]
          try simp only [List.setIfInBounds_toArray]
          try simp only [List.set_cons_succ]
          try simp only [List.set_cons_zero]
          refine wpAnyH_ready (rs := [9, 17]) (by kernel_rfl) (by simp) ?_
          refine AllReadyH.cons rfl (fun K hK => ?_) (AllReadyH.cons rfl (fun K hK => ?_) AllReadyH.nil)
          · skip
            go_simp
            refine (HW2.out _).mono ?_
            rintro e wq ⟨rfl, hw⟩
            rw [hw]
            clear hw wq
            refine hK.out _ _ (hSd) (fun _ => ?_)
            clear hK K
            try simp only [List.getElem_toArray]
            try simp only [List.getElem_cons_succ]
            try simp only [List.getElem_cons_zero]
            try simp only [Act.put]
            try simp only [List.setIfInBounds_toArray]
            try simp only [List.set_cons_succ]
            try simp only [List.set_cons_zero]
            refine wpAnyH_ready (rs := [11, 17]) (by kernel_rfl) (by simp) ?_
            refine AllReadyH.cons rfl (fun K hK => ?_) (AllReadyH.cons rfl (fun K hK => ?_) AllReadyH.nil)
            · skip
              go_simp
              refine (HW4.out _).mono ?_
              rintro e wq ⟨rfl, hw⟩
              rw [hw]
              clear hw wq
              refine hK.out _ _ (hSd) (fun _ => ?_)
              clear hK K
              try simp only [List.getElem_toArray]
              try simp only [List.getElem_cons_succ]
              try simp only [List.getElem_cons_zero]
              try simp only [Act.put]
              try simp only [List.setIfInBounds_toArray]
              try simp only [List.set_cons_succ]
              try simp only [List.set_cons_zero]
              refine wpAnyH_ready (rs := [15, 17]) (by kernel_rfl) (by simp) ?_
              refine AllReadyH.cons rfl (fun K hK => ?_) (AllReadyH.cons rfl (fun K hK => ?_) AllReadyH.nil)
              · skip
                go_simp
                refine (HCl.out _).mono ?_
                rintro e v1 ⟨rfl, hk⟩
                have kv1 : Kept (fun _ => False) W0 v1 := hSd.trans hk
                clear hk
                refine hK.out _ _ (kv1) (fun _ => ?_)
                clear hK K
                try simp only [List.getElem_toArray]
                try simp only [List.getElem_cons_succ]
                try simp only [List.getElem_cons_zero]
                try simp only [Act.put]
                try simp only [List.setIfInBounds_toArray]
                try simp only [List.set_cons_succ]
                try simp only [List.set_cons_zero]
                refine wpAnyH_take (i := 16) (v := ?_) rfl (by kernel_rfl) (by kernel_rfl) (by kernel_rfl) (fun _ _ _ h => h) (Or.inl ⟨by kernel_rfl, fun W hSW => by go_simp; try with_reducible rfl⟩) (by assumption) ?_
                try simp only [List.getElem_toArray]
                try simp only [List.getElem_cons_succ]
                try simp only [List.getElem_cons_zero]
                try simp only [Act.put]
                try simp only [List.setIfInBounds_toArray]
                try simp only [List.set_cons_succ]
                try simp only [List.set_cons_zero]
                refine wpAnyH_ready (rs := [17]) (by kernel_rfl) (by simp) ?_
                refine AllReadyH.cons rfl (fun K hK => ?_) AllReadyH.nil
                go_simp
                have kv2 : Kept (fun _ => False) W0 (World.alloc v1 (.cells #[.bool false, .bool false, .int .i64 0, .int .i64 0, .string ⟨#[]⟩] 72)) := kv1.alloc _
                have bv2 : AvAt (World.alloc v1 (.cells #[.bool false, .bool false, .int .i64 0, .int .i64 0, .string ⟨#[]⟩] 72)) v1.heap.size av0 := AvAt.new v1 av0
                have lv2 : W0.heap.size ≤ v1.heap.size := kv1.size
                refine hK.out _ _ (kv2) (fun _ => ?_)
                clear hK K
                try simp only [List.getElem_toArray]
                try simp only [List.getElem_cons_succ]
                try simp only [List.getElem_cons_zero]
                try simp only [Act.put]
                try simp only [List.setIfInBounds_toArray]
                try simp only [List.set_cons_succ]
                try simp only [List.set_cons_zero]
                generalize World.alloc v1 (.cells #[.bool false, .bool false, .int .i64 0, .int .i64 0, .string ⟨#[]⟩] 72) = v2 at *
                obtain ⟨wz, hrun, hav, hkz⟩ := store_av bv2 ⟨mq, hq, (N2 : Int), (N4 : Int), X⟩
                have hSz : Kept (fun _ => False) W0 wz := kv2.andThen hkz (fun i hi e => by have := lv2; omega)
                refine wpAnyH_ready (rs := [18]) (by kernel_rfl) (by simp) ?_
                refine AllReadyH.cons rfl (fun K hK => ?_) AllReadyH.nil
                refine stepB_store rfl (.tmp 7) (.tmp 46) 72 rfl _ _ rfl rfl hrun ?_
                refine hK.out _ _ (hSz) (fun _ => ?_)
                clear hK K
                try simp only [List.getElem_toArray]
                try simp only [List.getElem_cons_succ]
                try simp only [List.getElem_cons_zero]
                try simp only [Act.put]
                try simp only [List.setIfInBounds_toArray]
                try simp only [List.set_cons_succ]
                try simp only [List.set_cons_zero]
                refine wpAnyH_done (by kernel_rfl) ?_ _
                clear hrun hkz
                go_wp2
                go_meet
                exact ⟨_, rfl, hav, lv2, hSz⟩
              · skip
                go_simp
                have kv3 : Kept (fun _ => False) W0 (World.alloc W0 (.cells #[.bool false, .bool false, .int .i64 0, .int .i64 0, .string ⟨#[]⟩] 72)).drew := ((Kept.refl (fun _ => False) W0).alloc _).drew
                have bv3 : AvAt (World.alloc W0 (.cells #[.bool false, .bool false, .int .i64 0, .int .i64 0, .string ⟨#[]⟩] 72)).drew W0.heap.size av0 := (AvAt.new W0 av0).kept0 (Kept.refl _ _).drew
                have lv3 : W0.heap.size ≤ W0.heap.size := Nat.le_refl _
                refine hK.out _ _ (kv3) (fun _ => ?_)
                clear hK K
                try simp only [List.getElem_toArray]
                try simp only [List.getElem_cons_succ]
                try simp only [List.getElem_cons_zero]
                try simp only [Act.put]
                try simp only [List.setIfInBounds_toArray]
                try simp only [List.set_cons_succ]
                try simp only [List.set_cons_zero]
                generalize (World.alloc W0 (.cells #[.bool false, .bool false, .int .i64 0, .int .i64 0, .string ⟨#[]⟩] 72)).drew = v3 at *
                refine wpAnyH_ready (rs := [15]) (by kernel_rfl) (by simp) ?_
                refine AllReadyH.cons rfl (fun K hK => ?_) AllReadyH.nil
                go_simp
                refine (HCl.out _).mono ?_
                rintro e v4 ⟨rfl, hk⟩
                have kv4 : Kept (fun _ => False) W0 v4 := kv3.trans hk
                have bv4 := bv3.kept0 hk
                clear hk
                refine hK.out _ _ (kv4) (fun _ => ?_)
                clear hK K
                try simp only [List.getElem_toArray]
                try simp only [List.getElem_cons_succ]
                try simp only [List.getElem_cons_zero]
                try simp only [Act.put]
                try simp only [List.setIfInBounds_toArray]
                try simp only [List.set_cons_succ]
                try simp only [List.set_cons_zero]
                refine wpAnyH_take (i := 16) (v := ?_) rfl (by kernel_rfl) (by kernel_rfl) (by kernel_rfl) (fun _ _ _ h => h) (Or.inl ⟨by kernel_rfl, fun W hSW => by go_simp; try with_reducible rfl⟩) (by assumption) ?_
                try simp only [List.getElem_toArray]
                try simp only [List.getElem_cons_succ]
                try simp only [List.getElem_cons_zero]
                try simp only [Act.put]
                try simp only [List.setIfInBounds_toArray]
                try simp only [List.set_cons_succ]
                try simp only [List.set_cons_zero]
                obtain ⟨wz, hrun, hav, hkz⟩ := store_av bv4 ⟨mq, hq, (N2 : Int), (N4 : Int), X⟩
                have hSz : Kept (fun _ => False) W0 wz := kv4.andThen hkz (fun i hi e => by have := lv3; omega)
                refine wpAnyH_ready (rs := [18]) (by kernel_rfl) (by simp) ?_
                refine AllReadyH.cons rfl (fun K hK => ?_) AllReadyH.nil
                refine stepB_store rfl (.tmp 7) (.tmp 46) 72 rfl _ _ rfl rfl hrun ?_
                refine hK.out _ _ (hSz) (fun _ => ?_)
                clear hK K
                try simp only [List.getElem_toArray]
                try simp only [List.getElem_cons_succ]
                try simp only [List.getElem_cons_zero]
                try simp only [Act.put]
                try simp only [List.setIfInBounds_toArray]
                try simp only [List.set_cons_succ]
                try simp only [List.set_cons_zero]
                refine wpAnyH_done (by kernel_rfl) ?_ _
                clear hrun hkz
                go_wp2
                go_meet
                exact ⟨_, rfl, hav, lv3, hSz⟩
            · skip
              go_simp
              have kv5 : Kept (fun _ => False) W0 (World.alloc W0 (.cells #[.bool false, .bool false, .int .i64 0, .int .i64 0, .string ⟨#[]⟩] 72)).drew := ((Kept.refl (fun _ => False) W0).alloc _).drew
              have bv5 : AvAt (World.alloc W0 (.cells #[.bool false, .bool false, .int .i64 0, .int .i64 0, .string ⟨#[]⟩] 72)).drew W0.heap.size av0 := (AvAt.new W0 av0).kept0 (Kept.refl _ _).drew
              have lv5 : W0.heap.size ≤ W0.heap.size := Nat.le_refl _
              refine hK.out _ _ (kv5) (fun _ => ?_)
              clear hK K
              try simp only [List.getElem_toArray]
              try simp only [List.getElem_cons_succ]
              try simp only [List.getElem_cons_zero]
              try simp only [Act.put]
              try simp only [List.setIfInBounds_toArray]
              try simp only [List.set_cons_succ]
              try simp only [List.set_cons_zero]
              generalize (World.alloc W0 (.cells #[.bool false, .bool false, .int .i64 0, .int .i64 0, .string ⟨#[]⟩] 72)).drew = v5 at *
              refine wpAnyH_ready (rs := [11]) (by kernel_rfl) (by simp) ?_
              refine AllReadyH.cons rfl (fun K hK => ?_) AllReadyH.nil
              go_simp
              refine (HW4.out _).mono ?_
              rintro e wq ⟨rfl, hw⟩
              rw [hw]
              clear hw wq
              refine hK.out _ _ (kv5) (fun _ => ?_)
              clear hK K
              try simp only [List.getElem_toArray]
              try simp only [List.getElem_cons_succ]
              try simp only [List.getElem_cons_zero]
              try simp only [Act.put]
              try simp only [List.setIfInBounds_toArray]
              try simp only [List.set_cons_succ]
              try simp only [List.set_cons_zero]
              refine wpAnyH_ready (rs := [15]) (by kernel_rfl) (by simp) ?_
              refine AllReadyH.cons rfl (fun K hK => ?_) AllReadyH.nil
              go_simp
              refine (HCl.out _).mono ?_
              rintro e v6 ⟨rfl, hk⟩
              have kv6 : Kept (fun _ => False) W0 v6 := kv5.trans hk
              have bv6 := bv5.kept0 hk
              clear hk
              refine hK.out _ _ (kv6) (fun _ => ?_)
              clear hK K
              try simp only [List.getElem_toArray]
              try simp only [List.getElem_cons_succ]
              try simp only [List.getElem_cons_zero]
              try simp only [Act.put]
              try simp only [List.setIfInBounds_toArray]
              try simp only [List.set_cons_succ]
              try simp only [List.set_cons_zero]
              refine wpAnyH_take (i := 16) (v := ?_) rfl (by kernel_rfl) (by kernel_rfl) (by kernel_rfl) (fun _ _ _ h => h) (Or.inl ⟨by kernel_rfl, fun W hSW => by go_simp; try with_reducible rfl⟩) (by assumption) ?_
              try simp only [List.getElem_toArray]
              try simp only [List.getElem_cons_succ]
              try simp only [List.getElem_cons_zero]
              try simp only [Act.put]
              try simp only [List.setIfInBounds_toArray]
              try simp only [List.set_cons_succ]
              try simp only [List.set_cons_zero]
              obtain ⟨wz, hrun, hav, hkz⟩ := store_av bv6 ⟨mq, hq, (N2 : Int), (N4 : Int), X⟩
              have hSz : Kept (fun _ => False) W0 wz := kv6.andThen hkz (fun i hi e => by have := lv5; omega)
              refine wpAnyH_ready (rs := [18]) (by kernel_rfl) (by simp) ?_
              refine AllReadyH.cons rfl (fun K hK => ?_) AllReadyH.nil
              refine stepB_store rfl (.tmp 7) (.tmp 46) 72 rfl _ _ rfl rfl hrun ?_
              refine hK.out _ _ (hSz) (fun _ => ?_)
              clear hK K
              try simp only [List.getElem_toArray]
              try simp only [List.getElem_cons_succ]
              try simp only [List.getElem_cons_zero]
              try simp only [Act.put]
              try simp only [List.setIfInBounds_toArray]
              try simp only [List.set_cons_succ]
              try simp only [List.set_cons_zero]
              refine wpAnyH_done (by kernel_rfl) ?_ _
              clear hrun hkz
              go_wp2
              go_meet
              exact ⟨_, rfl, hav, lv5, hSz⟩
          · skip
            go_simp
            have kv7 : Kept (fun _ => False) W0 (World.alloc W0 (.cells #[.bool false, .bool false, .int .i64 0, .int .i64 0, .string ⟨#[]⟩] 72)).drew := ((Kept.refl (fun _ => False) W0).alloc _).drew
            have bv7 : AvAt (World.alloc W0 (.cells #[.bool false, .bool false, .int .i64 0, .int .i64 0, .string ⟨#[]⟩] 72)).drew W0.heap.size av0 := (AvAt.new W0 av0).kept0 (Kept.refl _ _).drew
            have lv7 : W0.heap.size ≤ W0.heap.size := Nat.le_refl _
            refine hK.out _ _ (kv7) (fun _ => ?_)
            clear hK K
            try simp only [List.getElem_toArray]
            try simp only [List.getElem_cons_succ]
            try simp only [List.getElem_cons_zero]
            try simp only [Act.put]
            try simp only [List.setIfInBounds_toArray]
            try simp only [List.set_cons_succ]
            try simp only [List.set_cons_zero]
            generalize (World.alloc W0 (.cells #[.bool false, .bool false, .int .i64 0, .int .i64 0, .string ⟨#[]⟩] 72)).drew = v7 at *
            refine wpAnyH_ready (rs := [9]) (by kernel_rfl) (by simp) ?_
            refine AllReadyH.cons rfl (fun K hK => ?_) AllReadyH.nil
            go_simp
            refine (HW2.out _).mono ?_
            rintro e wq ⟨rfl, hw⟩
            rw [hw]
            clear hw wq
            refine hK.out _ _ (kv7) (fun _ => ?_)
            clear hK K
            try simp only [List.getElem_toArray]
            try simp only [List.getElem_cons_succ]
            try simp only [List.getElem_cons_zero]
            try simp only [Act.put]
            try simp only [List.setIfInBounds_toArray]
            try simp only [List.set_cons_succ]
            try simp only [List.set_cons_zero]
            refine wpAnyH_ready (rs := [11]) (by kernel_rfl) (by simp) ?_
            refine AllReadyH.cons rfl (fun K hK => ?_) AllReadyH.nil
            go_simp
            refine (HW4.out _).mono ?_
            rintro e wq ⟨rfl, hw⟩
            rw [hw]
            clear hw wq
            refine hK.out _ _ (kv7) (fun _ => ?_)
            clear hK K
            try simp only [List.getElem_toArray]
            try simp only [List.getElem_cons_succ]
            try simp only [List.getElem_cons_zero]
            try simp only [Act.put]
            try simp only [List.setIfInBounds_toArray]
            try simp only [List.set_cons_succ]
            try simp only [List.set_cons_zero]
            refine wpAnyH_ready (rs := [15]) (by kernel_rfl) (by simp) ?_
            refine AllReadyH.cons rfl (fun K hK => ?_) AllReadyH.nil
            go_simp
            refine (HCl.out _).mono ?_
            rintro e v8 ⟨rfl, hk⟩
            have kv8 : Kept (fun _ => False) W0 v8 := kv7.trans hk
            have bv8 := bv7.kept0 hk
            clear hk
            refine hK.out _ _ (kv8) (fun _ => ?_)
            clear hK K
            try simp only [List.getElem_toArray]
            try simp only [List.getElem_cons_succ]
            try simp only [List.getElem_cons_zero]
            try simp only [Act.put]
            try simp only [List.setIfInBounds_toArray]
            try simp only [List.set_cons_succ]
            try simp only [List.set_cons_zero]
            refine wpAnyH_take (i := 16) (v := ?_) rfl (by kernel_rfl) (by kernel_rfl) (by kernel_rfl) (fun _ _ _ h => h) (Or.inl ⟨by kernel_rfl, fun W hSW => by go_simp; try with_reducible rfl⟩) (by assumption) ?_
            try simp only [List.getElem_toArray]
            try simp only [List.getElem_cons_succ]
            try simp only [List.getElem_cons_zero]
            try simp only [Act.put]
            try simp only [List.setIfInBounds_toArray]
            try simp only [List.set_cons_succ]
            try simp only [List.set_cons_zero]
            obtain ⟨wz, hrun, hav, hkz⟩ := store_av bv8 ⟨mq, hq, (N2 : Int), (N4 : Int), X⟩
            have hSz : Kept (fun _ => False) W0 wz := kv8.andThen hkz (fun i hi e => by have := lv7; omega)
            refine wpAnyH_ready (rs := [18]) (by kernel_rfl) (by simp) ?_
            refine AllReadyH.cons rfl (fun K hK => ?_) AllReadyH.nil
            refine stepB_store rfl (.tmp 7) (.tmp 46) 72 rfl _ _ rfl rfl hrun ?_
            refine hK.out _ _ (hSz) (fun _ => ?_)
            clear hK K
            try simp only [List.getElem_toArray]
            try simp only [List.getElem_cons_succ]
            try simp only [List.getElem_cons_zero]
            try simp only [Act.put]
            try simp only [List.setIfInBounds_toArray]
            try simp only [List.set_cons_succ]
            try simp only [List.set_cons_zero]
            refine wpAnyH_done (by kernel_rfl) ?_ _
            clear hrun hkz
            go_wp2
            go_meet
            exact ⟨_, rfl, hav, lv7, hSz⟩
        case rest =>
          obtain ⟨bx, rfl, hav, hle, hkc⟩ := hcut
          have HZ1 := hid (HZ.out.kept0 hkc)
          have HAv := hid hav
          have HK1 := hid (HK.out.trans hkc)
          obtain ⟨p0, p1, p2, p3, p4⟩ := hav.cells
          by_cases hm : mostF hq < L - 6
          · have HP : Hid (R = (av0, ⟨#[]⟩, 2)) := HR.out.trans (if_pos hm)
            have hmz := HD.out.1 hm
            obtain ⟨z0, z1, z2, z3, z4⟩ := HZ1.out.cells
            have f0 := HZ1.out.frozen 0
            have f1 := HZ1.out.frozen 1
            have f2 := HZ1.out.frozen 2
            have f3 := HZ1.out.frozen 3
            have f4 := HZ1.out.frozen 4
            unfold av0 at z0 z1 z2 z3 z4
            simp only at z0 z1 z2 z3 z4
            generalize (mostF hq : Int) = MF at *
            clear hm hav
            go_upto_region 10 with fail
            go_quiet ((go_at_call 175; exact Calls.quiet_of_same (HMo.out _)))
            go_wp2
            refine bodyPost_ret (v := .tuple #[avV av0, .string ⟨#[]⟩, .int .i64 2]) (by simp [results, Tryz.results130, go_sem, z0, z1, z2, z3, z4, avV, av0]) rfl ⟨by rw [HP.out], ?_⟩
            exact (((((HK1.out.drewN _).setCell (Or.inl (Nat.le_refl _)) _).setCell (Or.inl (Nat.le_refl _)) _).setCell (Or.inl (Nat.le_refl _)) _).setCell (Or.inl (Nat.le_refl _)) _).setCell (Or.inl (Nat.le_refl _)) _
          · have HP : Hid (R = (⟨mq, hq, (N2 : Int), (N4 : Int), X⟩, Y, 0)) := HR.out.trans (if_neg hm)
            have hmz : ¬ (mostF hq : Int) < (X.size : Int) := fun h => hm (HD.out.2 h)
            generalize (mostF hq : Int) = MF at *
            clear hm hav
            go_upto_region 10 with fail
            go_quiet ((go_at_call 175; exact Calls.quiet_of_same (HMo.out _)))
            go_upto_region 12 with fail
            have HA5 := hid (HAv.out.kept0 ((Kept.refl _ wc).drewN nq))
            have HZ5 := hid (HZ1.out.kept0 ((Kept.refl _ wc).drewN nq))
            have HK5 := hid (HK1.out.drewN nq)
            clear p0 p1 p2 p3 p4 HAv HZ1 HK1
            generalize wc.drewN nq = W5 at *
            have hne : ¬ (bx = w.heap.size) := by have := HZ.out.lt; omega
            have p0 : ∀ W, Kept (fun i => i = w.heap.size) W5 W → W.cell? ⟨bx, 0, none⟩ = some (.bool mq) := fun W h => (HA5.out.kept h hne).cells.1
            have p1 : ∀ W, Kept (fun i => i = w.heap.size) W5 W → W.cell? ⟨bx, 1, none⟩ = some (.bool hq) := fun W h => (HA5.out.kept h hne).cells.2.1
            have p2 : ∀ W, Kept (fun i => i = w.heap.size) W5 W → W.cell? ⟨bx, 2, none⟩ = some (.int .i64 (N2 : Int)) := fun W h => (HA5.out.kept h hne).cells.2.2.1
            have p3 : ∀ W, Kept (fun i => i = w.heap.size) W5 W → W.cell? ⟨bx, 3, none⟩ = some (.int .i64 (N4 : Int)) := fun W h => (HA5.out.kept h hne).cells.2.2.2.1
            have p4 : ∀ W, Kept (fun i => i = w.heap.size) W5 W → W.cell? ⟨bx, 4, none⟩ = some (.string X) := fun W h => (HA5.out.kept h hne).cells.2.2.2.2
            obtain ⟨wz, hrun, hav, hkz⟩ := store_av (HZ5.out.kept0 (Kept.refl _ W5).drew) ⟨mq, hq, (N2 : Int), (N4 : Int), X⟩
            have hSz : Kept (fun i => i = w.heap.size) W5 wz := (Kept.refl _ W5).drew.trans hkz
            refine wp_region_held_drew (S := Kept (fun i => i = w.heap.size) W5) (by kernel_rfl) ((Kept.refl _ W5).drew) (fun hSd => ?_)
            refine wpAnyH_take (i := 0) (v := ?_) rfl (by kernel_rfl) (by kernel_rfl) (by kernel_rfl) (fun _ _ _ h => h) (Or.inl ⟨by kernel_rfl, fun W hSW => by go_simp; try with_reducible rfl⟩) (by assumption) ?_
            try simp only [List.getElem_toArray]
            try simp only [List.getElem_cons_succ]
            try simp only [List.getElem_cons_zero]
            try simp only [Act.put]
            try simp only [List.setIfInBounds_toArray]
            try simp only [List.set_cons_succ]
            try simp only [List.set_cons_zero]
            refine wpAnyH_take (i := 1) (v := ?_) rfl (by kernel_rfl) (by kernel_rfl) (by kernel_rfl) (fun _ _ _ h => h) (Or.inl ⟨by kernel_rfl, fun W hSW => by go_simp; try with_reducible rfl⟩) (by assumption) ?_
            try simp only [List.getElem_toArray]
            try simp only [List.getElem_cons_succ]
            try simp only [List.getElem_cons_zero]
            try simp only [Act.put]
            try simp only [List.setIfInBounds_toArray]
            try simp only [List.set_cons_succ]
            try simp only [List.set_cons_zero]
            refine wpAnyH_take (i := 2) (v := ?_) rfl (by kernel_rfl) (by kernel_rfl) (by kernel_rfl) (fun _ _ _ h => h) (Or.inl ⟨by kernel_rfl, fun W hSW => by go_simp; try with_reducible rfl⟩) (by assumption) ?_
            try simp only [List.getElem_toArray]
            try simp only [List.getElem_cons_succ]
            try simp only [List.getElem_cons_zero]
            try simp only [Act.put]
            try simp only [List.setIfInBounds_toArray]
            try simp only [List.set_cons_succ]
            try simp only [List.set_cons_zero]
            refine wpAnyH_take (i := 3) (v := ?_) rfl (by kernel_rfl) (by kernel_rfl) (by kernel_rfl) (fun _ _ _ h => h) (Or.inl ⟨by kernel_rfl, fun W hSW => by go_simp; try with_reducible rfl⟩) (by assumption) ?_
            try simp only [List.getElem_toArray]
            try simp only [List.getElem_cons_succ]
            try simp only [List.getElem_cons_zero]
            try simp only [Act.put]
            try simp only [List.setIfInBounds_toArray]
            try simp only [List.set_cons_succ]
            try simp only [List.set_cons_zero]
            refine wpAnyH_ready (rs := [4]) (by kernel_rfl) (by simp) ?_
            refine AllReadyH.cons rfl (fun K hK => ?_) AllReadyH.nil
            refine stepB_store rfl (.tmp 2) (.tmp 55) 72 rfl _ _ rfl rfl hrun ?_
            refine hK.out _ _ (hSz) (fun _ => ?_)
            clear hK K
            try simp only [List.getElem_toArray]
            try simp only [List.getElem_cons_succ]
            try simp only [List.getElem_cons_zero]
            try simp only [Act.put]
            try simp only [List.setIfInBounds_toArray]
            try simp only [List.set_cons_succ]
            try simp only [List.set_cons_zero]
            refine wpAnyH_take (i := 5) (v := ?_) rfl (by kernel_rfl) (by kernel_rfl) (by kernel_rfl) (fun _ _ _ h => h) (Or.inl ⟨by kernel_rfl, fun W hSW => by go_simp; try with_reducible rfl⟩) (by assumption) ?_
            try simp only [List.getElem_toArray]
            try simp only [List.getElem_cons_succ]
            try simp only [List.getElem_cons_zero]
            try simp only [Act.put]
            try simp only [List.setIfInBounds_toArray]
            try simp only [List.set_cons_succ]
            try simp only [List.set_cons_zero]
            refine wpAnyH_take (i := 6) (v := ?_) rfl (by kernel_rfl) (by kernel_rfl) (by kernel_rfl) (fun _ _ _ h => h) (Or.inl ⟨by kernel_rfl, fun W hSW => by go_simp; try with_reducible rfl⟩) (by assumption) ?_
            try simp only [List.getElem_toArray]
            try simp only [List.getElem_cons_succ]
            try simp only [List.getElem_cons_zero]
            try simp only [Act.put]
            try simp only [List.setIfInBounds_toArray]
            try simp only [List.set_cons_succ]
            try simp only [List.set_cons_zero]
            refine wpAnyH_done (by kernel_rfl) ?_ _
            have HE := hid (HK5.out.andThen hSz (fun i hi e => by omega))
            obtain ⟨o0, o1, o2, o3, o4⟩ := hav.cells
            simp only at o0 o1 o2 o3 o4
            clear hrun hav hkz hSz p0 p1 p2 p3 p4
            go_wp2
            refine bodyPost_ret (v := .tuple #[avV ⟨mq, hq, (N2 : Int), (N4 : Int), X⟩, .string Y, .int .i64 0]) (by simp [results, Tryz.results130, go_sem, o0, o1, o2, o3, o4, avV]) rfl ⟨by rw [HP.out], HE.out⟩
end Go.Proofs.YtkneogfeokckjaaGreatDoor
