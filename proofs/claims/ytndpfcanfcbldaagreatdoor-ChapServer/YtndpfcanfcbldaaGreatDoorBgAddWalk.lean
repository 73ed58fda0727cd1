/- The contract of the book's Tags: one list more. -/
import Derived.Test.YtndpfcanfcbldaaGreatDoorBgAdd
import Derived.Deep.RegionHeld3
namespace Go.Proofs.YtndpfcanfcbldaaGreatDoor
open Go.RowKit
section
variable {X : Nat → Value} {W W' : World} {bk base : Nat} {v6 v7 : Value} {vs us : List Value} {Ls Ks : List (List Tg)}
set_option maxHeartbeats 4000000 in
set_option maxRecDepth 100000 in
theorem bookOptions_any (h : BookT X W bk base v6 v7 vs us Ls) (hb : base ≤ W.heap.size) (h250 : vs.length < 250) {v : Value} {L : List Tg} (hv : OwnO W base v L) (hnew : ∀ (r : Nat) (u : Value), vs[r]? = some u → ¬ Shares u v) (hLn : L.length ≤ 1000) :
    Calls Tryz.prog 35 #[.pointer (some ⟨bk, 0, none⟩), v] W fun e w' => e = .returned (.tuple #[]) ∧ ∃ v6' v7' u, BookT X w' bk base v6' v7' (vs ++ [v]) (us ++ [u]) (Ls ++ [L]) ∧ Kept (Bo bk v6 v7) W w' := by
  have hul : us.length ≤ 250 := by have h1 := h.f7.len; have h2 := h.p.f6.len; omega
  obtain ⟨p6, cap6, rfl⟩ := rowS_slice h.p.r6
  obtain ⟨pv, cv, rfl⟩ := slice_of hv
  obtain ⟨v6', w1, hs, hr, hg⟩ := rowS_app h.p.r6 hb (own_oneCell hv) (by omega)
  have hk0 : Kept (fun _ => False) W (W.alloc (.cells #[.slice pv L.length cv] 55)) := (Kept.refl _ _).alloc _
  have h0 := h.kept0 hk0
  have hH := half6 h0 (hv.kept hk0) hnew hg hr
  have hblk := (hg.kept.block bk h0.p.lt (fun e => h0.p.far h0.p.r6 (by decide) e)).trans h0.p.blk
  have c6 := h.p.c6
  have c60 := h0.p.c6
  have d6 : w1.cell? ⟨bk, 8, none⟩ = some (.slice p6 vs.length cap6) := by simp [World.cell?, hblk, bookCells]
  have f6 : w1.frozen? ⟨bk, 8, none⟩ = false := frozen_of_row _ bk 8 _ _ hblk
  have hB1 : Kept (Bo bk (.slice p6 vs.length cap6) v7) W w1 := (hk0.mono (fun _ _ h => h.elim)).trans (hg.kept.mono (fun i _ hi => Or.inr (Or.inl hi)))
  have hBH := hB1.setCell (p := ⟨bk, 8, none⟩) (Or.inr (Or.inl rfl)) v6'
  have hbH : base ≤ (w1.setCell ⟨bk, 8, none⟩ v6').heap.size := Nat.le_trans hb hBH.size
  have hov : OwnO (w1.setCell ⟨bk, 8, none⟩ v6') base (.slice pv L.length cv) L := hH.p.f6.own vs.length _ L (by simp) (by rw [h.p.f6.len]; simp)
  obtain ⟨p6', c6', e6⟩ := slice_of hr
  rw [List.length_append, List.length_singleton] at e6
  subst e6
  have c7 := hH.p.c7
  have f7 := hH.p.frozen 9
  obtain ⟨p7, cap7, e7⟩ := rowS_slice hH.r7
  subst e7
  have hltz : (vs.length : Int) < 250 := by omega
  have HC : Hid (∀ W', Kept (fun _ => False) (w1.setCell ⟨bk, 8, none⟩ (.slice p6' (vs.length + 1) c6')) W' → Calls Tryz.prog 125 #[.slice pv L.length cv] W' fun e w' => ∃ pu cu, e = .returned (.slice pu L.length cu) ∧ Copied X W (Bo bk (.slice p6 vs.length cap6) (.slice p7 us.length cap7)) bk base (.slice p6' (vs.length + 1) c6') (.slice p7 us.length cap7) (vs ++ [.slice pv L.length cv]) us (Ls ++ [L]) Ls (.slice pu L.length cu) L w') := fun W' hk => by
    refine (copyOptions_any (.slice pv L.length cv) L W' (hov.kept hk).tags (by omega)).mono ?_
    rintro e w' ⟨u, rfl, ho, hk2⟩
    obtain ⟨pu, cu, rfl⟩ := slice_of ho
    exact ⟨pu, cu, rfl, hH.kept0 (hk.trans hk2), ho.mono (Nat.le_trans hbH hk.size), hBH.trans ((hk.trans hk2).mono (fun _ _ h => h.elim)), Nat.le_trans hbH (hk.trans hk2).size⟩
  have HA := hid (fun W' u (hc : Copied X W (Bo bk (.slice p6 vs.length cap6) (.slice p7 us.length cap7)) bk base (.slice p6' (vs.length + 1) c6') (.slice p7 us.length cap7) (vs ++ [.slice pv L.length cv]) us (Ls ++ [L]) Ls u L W') => copied_app (S := Bo bk (.slice p6 vs.length cap6) (.slice p7 us.length cap7)) (fun i hi => Or.inr (Or.inr hi)) (Or.inl rfl) hc rfl hul)
  have D0 : Kept (fun _ => False) (w1.setCell ⟨bk, 8, none⟩ (.slice p6' (vs.length + 1) c6')) (w1.setCell ⟨bk, 8, none⟩ (.slice p6' (vs.length + 1) c6')).drew := (Kept.refl _ _).drew
  have HS : Hid (∀ W', Kept (fun _ => False) (w1.setCell ⟨bk, 8, none⟩ (.slice p6' (vs.length + 1) c6')) W' → W'.cell? ⟨bk, 9, none⟩ = some (.slice p7 us.length cap7) ∧ W'.frozen? ⟨bk, 9, none⟩ = false) := fun W' hk => ⟨(hH.kept0 hk).p.c7, (hH.kept0 hk).p.frozen 9⟩
  have HSc : Hid (∀ W' u o, Copied X W (Bo bk (.slice p6 vs.length cap6) (.slice p7 us.length cap7)) bk base (.slice p6' (vs.length + 1) c6') (.slice p7 us.length cap7) (vs ++ [.slice pv L.length cv]) us (Ls ++ [L]) Ls u L W' → (W'.cell? ⟨bk, 9, none⟩ = some (.slice p7 us.length cap7) ∧ W'.frozen? ⟨bk, 9, none⟩ = false) ∧ ((W'.alloc o).cell? ⟨bk, 9, none⟩ = some (.slice p7 us.length cap7) ∧ (W'.alloc o).frozen? ⟨bk, 9, none⟩ = false)) := fun W' u o hc => ⟨⟨hc.1.p.c7, hc.1.p.frozen 9⟩, (hc.1.kept0 ((Kept.refl _ _).alloc o)).p.c7, (hc.1.kept0 ((Kept.refl _ _).alloc o)).p.frozen 9⟩
  clear h h0 hH hov hg hr hv hnew hblk hB1 hBH hk0
  go_enter Tryz.func35, Tryz.ntmps35
  go_wp2_with (at_builtin; refine Lib.wpList_append_run _ rfl _ _ _ _ rfl _ _ rfl rfl _ _ (hs _) ?_)
  clear hs c6 c60
  have c7d := (HS.out _ D0).1
  have f7d := (HS.out _ D0).2
  refine wp_region_noPanic ?_
  refine wp_region_held_drew (S := fun _ => True) (by kernel_rfl) trivial (fun _ => ?_)
  refine wpAnyH_take (i := 0) (v := ?_) rfl (by kernel_rfl) (by kernel_rfl) (by kernel_rfl) (fun _ _ _ h => h) (Or.inl ⟨by kernel_rfl, fun W hSW => by go_simp; try with_reducible rfl⟩) trivial ?_
  try simp only [List.getElem_toArray]
  try simp only [List.getElem_cons_succ]
  try simp only [List.getElem_cons_zero]
  try simp only [Act.put]
  try simp only [List.setIfInBounds_toArray]
  try simp only [List.set_cons_succ]
  try simp only [List.set_cons_zero]
  refine wpAnyH_take (i := 1) (v := ?_) rfl (by kernel_rfl) (by kernel_rfl) (by kernel_rfl) (fun _ _ _ h => h) (Or.inl ⟨by kernel_rfl, fun W hSW => by go_simp; try with_reducible rfl⟩) trivial ?_
  try simp only [List.getElem_toArray]
  try simp only [List.getElem_cons_succ]
  try simp only [List.getElem_cons_zero]
  try simp only [Act.put]
  try simp only [List.setIfInBounds_toArray]
  try simp only [List.set_cons_succ]
  try simp only [List.set_cons_zero]
  refine wpAnyH_take (i := 2) (v := ?_) rfl (by kernel_rfl) (by kernel_rfl) (by kernel_rfl) (fun _ _ _ h => h) (Or.inl ⟨by kernel_rfl, fun W hSW => by go_simp; try with_reducible rfl⟩) trivial ?_
  try simp only [List.getElem_toArray]
  try simp only [List.getElem_cons_succ]
  try simp only [List.getElem_cons_zero]
  try simp only [Act.put]
  try simp only [List.setIfInBounds_toArray]
  try simp only [List.set_cons_succ]
  try simp only [List.set_cons_zero]
  refine wpAnyH_take (i := 3) (v := ?_) rfl (by kernel_rfl) (by kernel_rfl) (by kernel_rfl) (fun _ _ _ h => h) (Or.inl ⟨by kernel_rfl, fun W hSW => by go_simp; try with_reducible rfl⟩) trivial ?_
  try simp only [List.getElem_toArray]
  try simp only [List.getElem_cons_succ]
  try simp only [List.getElem_cons_zero]
  try simp only [Act.put]
  try simp only [List.setIfInBounds_toArray]
  try simp only [List.set_cons_succ]
  try simp only [List.set_cons_zero]
  refine wpAnyH_take (i := 5) (v := ?_) rfl (by kernel_rfl) (by kernel_rfl) (by kernel_rfl) (fun _ _ _ h => h) (Or.inl ⟨by kernel_rfl, fun W hSW => by go_simp; try with_reducible rfl⟩) trivial ?_
  try simp only [List.getElem_toArray]
  try simp only [List.getElem_cons_succ]
  try simp only [List.getElem_cons_zero]
  try simp only [Act.put]
  try simp only [List.setIfInBounds_toArray]
  try simp only [List.set_cons_succ]
  try simp only [List.set_cons_zero]
  refine wpAnyH_ready (rs := [4, 6]) (by kernel_rfl) (by simp) ?_
  refine AllReadyH.cons rfl (fun K hK => ?_) (AllReadyH.cons rfl (fun K hK => ?_) AllReadyH.nil)
  · go_simp
    refine hK.out _ _ trivial (fun _ => ?_)
    clear hK K
    try simp only [List.getElem_toArray]
    try simp only [List.getElem_cons_succ]
    try simp only [List.getElem_cons_zero]
    try simp only [Act.put]
    try simp only [List.setIfInBounds_toArray]
    try simp only [List.set_cons_succ]
    try simp only [List.set_cons_zero]
    refine wpAnyH_ready (rs := [6]) (by kernel_rfl) (by simp) ?_
    refine AllReadyH.cons rfl (fun K hK => ?_) AllReadyH.nil
    go_simp
    refine (HC.out _ D0).mono ?_
    rintro e w3 ⟨pu, cu, rfl, hc3⟩
    have q3 := hc3.1.p.c7
    have q3a := fun o => (HSc.out _ _ o hc3).2.1
    refine hK.out _ _ trivial (fun _ => ?_)
    clear hK K
    try simp only [List.getElem_toArray]
    try simp only [List.getElem_cons_succ]
    try simp only [List.getElem_cons_zero]
    try simp only [Act.put]
    try simp only [List.setIfInBounds_toArray]
    try simp only [List.set_cons_succ]
    try simp only [List.set_cons_zero]
    refine wpAnyH_ready (rs := [7]) (by kernel_rfl) (by simp) ?_
    refine AllReadyH.cons rfl (fun K hK => ?_) AllReadyH.nil
    go_simp
    refine hK.out _ _ trivial (fun _ => ?_)
    clear hK K
    try simp only [List.getElem_toArray]
    try simp only [List.getElem_cons_succ]
    try simp only [List.getElem_cons_zero]
    try simp only [Act.put]
    try simp only [List.setIfInBounds_toArray]
    try simp only [List.set_cons_succ]
    try simp only [List.set_cons_zero]
    refine wpAnyH_ready (rs := [8]) (by kernel_rfl) (by simp) ?_
    refine AllReadyH.cons rfl (fun K hK => ?_) AllReadyH.nil
    obtain ⟨p4, c4, w4, hs4, q7, qf, hB4, hbel⟩ := HA.out _ _ hc3
    refine step_append_run rfl (.tmp 24) (.tmp 27) 37 rfl (.slice p7 us.length cap7) (.slice (some ⟨w3.heap.size, 0, none⟩) 1 1) rfl rfl (hs4 _) ?_
    refine hK.out _ _ trivial (fun _ => ?_)
    clear hK K
    try simp only [List.getElem_toArray]
    try simp only [List.getElem_cons_succ]
    try simp only [List.getElem_cons_zero]
    try simp only [Act.put]
    try simp only [List.setIfInBounds_toArray]
    try simp only [List.set_cons_succ]
    try simp only [List.set_cons_zero]
    refine wpAnyH_take (i := 9) (v := ?_) rfl (by kernel_rfl) (by kernel_rfl) (by kernel_rfl) (fun _ _ _ h => h) (Or.inl ⟨by kernel_rfl, fun W hSW => by go_simp; try with_reducible rfl⟩) trivial ?_
    try simp only [List.getElem_toArray]
    try simp only [List.getElem_cons_succ]
    try simp only [List.getElem_cons_zero]
    try simp only [Act.put]
    try simp only [List.setIfInBounds_toArray]
    try simp only [List.set_cons_succ]
    try simp only [List.set_cons_zero]
    refine wpAnyH_take (i := 10) (v := ?_) rfl (by kernel_rfl) (by kernel_rfl) (by kernel_rfl) (fun _ _ _ h => h) (Or.inl ⟨by kernel_rfl, fun W hSW => by go_simp; try with_reducible rfl⟩) trivial ?_
    try simp only [List.getElem_toArray]
    try simp only [List.getElem_cons_succ]
    try simp only [List.getElem_cons_zero]
    try simp only [Act.put]
    try simp only [List.setIfInBounds_toArray]
    try simp only [List.set_cons_succ]
    try simp only [List.set_cons_zero]
    refine wpAnyH_ready (rs := [11]) (by kernel_rfl) (by simp) ?_
    refine AllReadyH.cons rfl (fun K hK => ?_) AllReadyH.nil
    go_simp
    refine hK.out _ _ trivial (fun _ => ?_)
    clear hK K
    try simp only [List.getElem_toArray]
    try simp only [List.getElem_cons_succ]
    try simp only [List.getElem_cons_zero]
    try simp only [Act.put]
    try simp only [List.setIfInBounds_toArray]
    try simp only [List.set_cons_succ]
    try simp only [List.set_cons_zero]
    refine wpAnyH_done (by kernel_rfl) ?_ _
    refine NoPanic.normal ?_
    go_wp2
    go_end0
    exact ⟨rfl, _, _, _, hB4, hbel⟩
  · go_simp
    refine (HC.out _ D0).mono ?_
    rintro e w3 ⟨pu, cu, rfl, hc3⟩
    have q3 := hc3.1.p.c7
    have q3a := fun o => (HSc.out _ _ o hc3).2.1
    refine hK.out _ _ trivial (fun _ => ?_)
    clear hK K
    try simp only [List.getElem_toArray]
    try simp only [List.getElem_cons_succ]
    try simp only [List.getElem_cons_zero]
    try simp only [Act.put]
    try simp only [List.setIfInBounds_toArray]
    try simp only [List.set_cons_succ]
    try simp only [List.set_cons_zero]
    refine wpAnyH_ready (rs := [4, 7]) (by kernel_rfl) (by simp) ?_
    refine AllReadyH.cons rfl (fun K hK => ?_) (AllReadyH.cons rfl (fun K hK => ?_) AllReadyH.nil)
    · go_simp
      refine hK.out _ _ trivial (fun _ => ?_)
      clear hK K
      try simp only [List.getElem_toArray]
      try simp only [List.getElem_cons_succ]
      try simp only [List.getElem_cons_zero]
      try simp only [Act.put]
      try simp only [List.setIfInBounds_toArray]
      try simp only [List.set_cons_succ]
      try simp only [List.set_cons_zero]
      refine wpAnyH_ready (rs := [7]) (by kernel_rfl) (by simp) ?_
      refine AllReadyH.cons rfl (fun K hK => ?_) AllReadyH.nil
      go_simp
      refine hK.out _ _ trivial (fun _ => ?_)
      clear hK K
      try simp only [List.getElem_toArray]
      try simp only [List.getElem_cons_succ]
      try simp only [List.getElem_cons_zero]
      try simp only [Act.put]
      try simp only [List.setIfInBounds_toArray]
      try simp only [List.set_cons_succ]
      try simp only [List.set_cons_zero]
      refine wpAnyH_ready (rs := [8]) (by kernel_rfl) (by simp) ?_
      refine AllReadyH.cons rfl (fun K hK => ?_) AllReadyH.nil
      obtain ⟨p4, c4, w4, hs4, q7, qf, hB4, hbel⟩ := HA.out _ _ hc3
      refine step_append_run rfl (.tmp 24) (.tmp 27) 37 rfl (.slice p7 us.length cap7) (.slice (some ⟨w3.heap.size, 0, none⟩) 1 1) rfl rfl (hs4 _) ?_
      refine hK.out _ _ trivial (fun _ => ?_)
      clear hK K
      try simp only [List.getElem_toArray]
      try simp only [List.getElem_cons_succ]
      try simp only [List.getElem_cons_zero]
      try simp only [Act.put]
      try simp only [List.setIfInBounds_toArray]
      try simp only [List.set_cons_succ]
      try simp only [List.set_cons_zero]
      refine wpAnyH_take (i := 9) (v := ?_) rfl (by kernel_rfl) (by kernel_rfl) (by kernel_rfl) (fun _ _ _ h => h) (Or.inl ⟨by kernel_rfl, fun W hSW => by go_simp; try with_reducible rfl⟩) trivial ?_
      try simp only [List.getElem_toArray]
      try simp only [List.getElem_cons_succ]
      try simp only [List.getElem_cons_zero]
      try simp only [Act.put]
      try simp only [List.setIfInBounds_toArray]
      try simp only [List.set_cons_succ]
      try simp only [List.set_cons_zero]
      refine wpAnyH_take (i := 10) (v := ?_) rfl (by kernel_rfl) (by kernel_rfl) (by kernel_rfl) (fun _ _ _ h => h) (Or.inl ⟨by kernel_rfl, fun W hSW => by go_simp; try with_reducible rfl⟩) trivial ?_
      try simp only [List.getElem_toArray]
      try simp only [List.getElem_cons_succ]
      try simp only [List.getElem_cons_zero]
      try simp only [Act.put]
      try simp only [List.setIfInBounds_toArray]
      try simp only [List.set_cons_succ]
      try simp only [List.set_cons_zero]
      refine wpAnyH_ready (rs := [11]) (by kernel_rfl) (by simp) ?_
      refine AllReadyH.cons rfl (fun K hK => ?_) AllReadyH.nil
      go_simp
      refine hK.out _ _ trivial (fun _ => ?_)
      clear hK K
      try simp only [List.getElem_toArray]
      try simp only [List.getElem_cons_succ]
      try simp only [List.getElem_cons_zero]
      try simp only [Act.put]
      try simp only [List.setIfInBounds_toArray]
      try simp only [List.set_cons_succ]
      try simp only [List.set_cons_zero]
      refine wpAnyH_done (by kernel_rfl) ?_ _
      refine NoPanic.normal ?_
      go_wp2
      go_end0
      exact ⟨rfl, _, _, _, hB4, hbel⟩
    · go_simp
      refine hK.out _ _ trivial (fun _ => ?_)
      clear hK K
      try simp only [List.getElem_toArray]
      try simp only [List.getElem_cons_succ]
      try simp only [List.getElem_cons_zero]
      try simp only [Act.put]
      try simp only [List.setIfInBounds_toArray]
      try simp only [List.set_cons_succ]
      try simp only [List.set_cons_zero]
      refine wpAnyH_ready (rs := [4]) (by kernel_rfl) (by simp) ?_
      refine AllReadyH.cons rfl (fun K hK => ?_) AllReadyH.nil
      go_simp
      refine hK.out _ _ trivial (fun _ => ?_)
      clear hK K
      try simp only [List.getElem_toArray]
      try simp only [List.getElem_cons_succ]
      try simp only [List.getElem_cons_zero]
      try simp only [Act.put]
      try simp only [List.setIfInBounds_toArray]
      try simp only [List.set_cons_succ]
      try simp only [List.set_cons_zero]
      refine wpAnyH_ready (rs := [8]) (by kernel_rfl) (by simp) ?_
      refine AllReadyH.cons rfl (fun K hK => ?_) AllReadyH.nil
      obtain ⟨p4, c4, w4, hs4, q7, qf, hB4, hbel⟩ := HA.out _ _ hc3
      refine step_append_run rfl (.tmp 24) (.tmp 27) 37 rfl (.slice p7 us.length cap7) (.slice (some ⟨w3.heap.size, 0, none⟩) 1 1) rfl rfl (hs4 _) ?_
      refine hK.out _ _ trivial (fun _ => ?_)
      clear hK K
      try simp only [List.getElem_toArray]
      try simp only [List.getElem_cons_succ]
      try simp only [List.getElem_cons_zero]
      try simp only [Act.put]
      try simp only [List.setIfInBounds_toArray]
      try simp only [List.set_cons_succ]
      try simp only [List.set_cons_zero]
      refine wpAnyH_take (i := 9) (v := ?_) rfl (by kernel_rfl) (by kernel_rfl) (by kernel_rfl) (fun _ _ _ h => h) (Or.inl ⟨by kernel_rfl, fun W hSW => by go_simp; try with_reducible rfl⟩) trivial ?_
      try simp only [List.getElem_toArray]
      try simp only [List.getElem_cons_succ]
      try simp only [List.getElem_cons_zero]
      try simp only [Act.put]
      try simp only [List.setIfInBounds_toArray]
      try simp only [List.set_cons_succ]
      try simp only [List.set_cons_zero]
      refine wpAnyH_take (i := 10) (v := ?_) rfl (by kernel_rfl) (by kernel_rfl) (by kernel_rfl) (fun _ _ _ h => h) (Or.inl ⟨by kernel_rfl, fun W hSW => by go_simp; try with_reducible rfl⟩) trivial ?_
      try simp only [List.getElem_toArray]
      try simp only [List.getElem_cons_succ]
      try simp only [List.getElem_cons_zero]
      try simp only [Act.put]
      try simp only [List.setIfInBounds_toArray]
      try simp only [List.set_cons_succ]
      try simp only [List.set_cons_zero]
      refine wpAnyH_ready (rs := [11]) (by kernel_rfl) (by simp) ?_
      refine AllReadyH.cons rfl (fun K hK => ?_) AllReadyH.nil
      go_simp
      refine hK.out _ _ trivial (fun _ => ?_)
      clear hK K
      try simp only [List.getElem_toArray]
      try simp only [List.getElem_cons_succ]
      try simp only [List.getElem_cons_zero]
      try simp only [Act.put]
      try simp only [List.setIfInBounds_toArray]
      try simp only [List.set_cons_succ]
      try simp only [List.set_cons_zero]
      refine wpAnyH_done (by kernel_rfl) ?_ _
      refine NoPanic.normal ?_
      go_wp2
      go_end0
      exact ⟨rfl, _, _, _, hB4, hbel⟩
end
end Go.Proofs.YtndpfcanfcbldaaGreatDoor
