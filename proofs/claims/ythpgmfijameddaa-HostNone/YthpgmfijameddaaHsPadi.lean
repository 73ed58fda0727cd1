/- The contract of the host's inner padi. -/
import Derived.Test.YthpgmfijameddaaHsAsk
namespace Go.Proofs.Ythpgmfijameddaa
open Go.RowKit

theorem every_cells : Lib.byteCells everyF = [.int .u8 255, .int .u8 255, .int .u8 255, .int .u8 255, .int .u8 255, .int .u8 255] := rfl
theorem markT_few (u : ByteArray) (hu : u.size ≤ 40) : (markT u).length ≤ 1 ∧ ∀ x ∈ markT u, x.value.size ≤ 40 := by
  unfold markT
  split
  · simp
  · simp; exact hu

set_option maxHeartbeats 4000000 in
set_option maxRecDepth 100000 in
theorem padi_any (b : Nat) (av : Value) (h : Hs) (hg : GoodH h) (w : World) (hH : HostIn w b av h) :
    Calls Try.prog 20 #[.pointer (some ⟨b, 0, none⟩)] w fun e w' => ∃ u, e = .returned u ∧ OwnE w' w.heap.size u (padiF h) ∧ Kept (fun _ => False) w w' := by
  obtain ⟨x0, x1, x2, x3, x4, x5, hx⟩ := six_cells hg.mac
  obtain ⟨y0, y1, y2, y3, y4, y5, hy⟩ := six_cells hg.conc
  have HC := hid (fun W (hk : Kept (fun _ => False) w W) => (hH.kept0 hk).cells hx hy)
  have HSD := hid (fun (v8 : Value) W (hv8 : TagsAt W v8 ([wantedF h] ++ markF h)) => disc_any everyF h.mac rfl hg.mac 9 0 v8 _ W hv8 (fun x hx => by
    simp only [List.mem_append, List.mem_cons, List.not_mem_nil, or_false] at hx
    rcases hx with rfl | hx
    · have := hg.service
      show h.service.size ≤ _
      omega
    · exact Nat.le_trans ((markT_few h.uniq hg.uniq).2 x hx) (by decide)))
  have hml := (markT_few h.uniq hg.uniq).1
  have HLN : Hid (([wantedF h] : List Tg).length + (markT h.uniq).length ≤ 1000000) := by show 1 + _ ≤ _; omega
  have HWA := hid (fun W (hk : Kept (fun _ => False) w W) => wanted_any b h.service W (HC.out W hk).c6)
  have HMA := hid (fun W (hk : Kept (fun _ => False) w W) => mark_any b h.uniq W (HC.out W hk).c7)
  change Hid (∀ (v8 : Value) W, TagsAt W v8 ([wantedF h] ++ markF h) → Calls Try.prog 21 _ W fun e w' => ∃ u, e = .returned u ∧ OwnE w' W.heap.size u (padiF h) ∧ Kept (fun _ => False) W w') at HSD
  rw [every_cells, hx] at HSD
  rw [markF_eq] at HSD
  have r0 : ∀ W, Kept (fun _ => False) w W → W.cell? ⟨b, 0, none⟩ = some (.int .u8 x0) := fun W hW => (HC.out W hW).c0
  have r1 : ∀ W, Kept (fun _ => False) w W → W.cell? ⟨b, 1, none⟩ = some (.int .u8 x1) := fun W hW => (HC.out W hW).c1
  have r2 : ∀ W, Kept (fun _ => False) w W → W.cell? ⟨b, 2, none⟩ = some (.int .u8 x2) := fun W hW => (HC.out W hW).c2
  have r3 : ∀ W, Kept (fun _ => False) w W → W.cell? ⟨b, 3, none⟩ = some (.int .u8 x3) := fun W hW => (HC.out W hW).c3
  have r4 : ∀ W, Kept (fun _ => False) w W → W.cell? ⟨b, 4, none⟩ = some (.int .u8 x4) := fun W hW => (HC.out W hW).c4
  have r5 : ∀ W, Kept (fun _ => False) w W → W.cell? ⟨b, 5, none⟩ = some (.int .u8 x5) := fun W hW => (HC.out W hW).c5
  clear hH hy hml hx hg
  generalize padiF h = PD at *
  go_enter Try.func20, Try.ntmps20
  go_wp2_with fail
  refine wp_region_held_drew (S := Kept (fun _ => False) w) (by kernel_rfl) ((Kept.refl _ w).drew) (fun hSd => ?_)
  refine wpAnyH_take (i := 1) (v := ?_) rfl (by kernel_rfl) (by kernel_rfl) (by kernel_rfl) (fun _ _ _ h => h) (Or.inl ⟨by kernel_rfl, fun W hSW => by go_simp; try with_reducible rfl⟩) (by assumption) ?_
  try simp only [List.getElem_toArray]
  try simp only [List.getElem_cons_succ]
  try simp only [List.getElem_cons_zero]
  try simp only [Act.put]
  try simp only [List.setIfInBounds_toArray]
  try simp only [List.set_cons_succ]
  try simp only [List.set_cons_zero]
  refine wpAnyH_take (i := 2) (v := ?_) rfl (by kernel_rfl) (by kernel_rfl) (by kernel_rfl) (fun _ _ _ h => h) (Or.inl ⟨by kernel_rfl, fun W hSW => by go_simp; try with_reducible rfl⟩) (by assumption) ?_
  try simp only [List.getElem_toArray]
  try simp only [List.getElem_cons_succ]
  try simp only [List.getElem_cons_zero]
  try simp only [Act.put]
  try simp only [List.setIfInBounds_toArray]
  try simp only [List.set_cons_succ]
  try simp only [List.set_cons_zero]
  refine wpAnyH_take (i := 3) (v := ?_) rfl (by kernel_rfl) (by kernel_rfl) (by kernel_rfl) (fun _ _ _ h => h) (Or.inl ⟨by kernel_rfl, fun W hSW => by go_simp; try with_reducible rfl⟩) (by assumption) ?_
  try simp only [List.getElem_toArray]
  try simp only [List.getElem_cons_succ]
  try simp only [List.getElem_cons_zero]
  try simp only [Act.put]
  try simp only [List.setIfInBounds_toArray]
  try simp only [List.set_cons_succ]
  try simp only [List.set_cons_zero]
  refine wpAnyH_take (i := 4) (v := ?_) rfl (by kernel_rfl) (by kernel_rfl) (by kernel_rfl) (fun _ _ _ h => h) (Or.inl ⟨by kernel_rfl, fun W hSW => by go_simp; try with_reducible rfl⟩) (by assumption) ?_
  try simp only [List.getElem_toArray]
  try simp only [List.getElem_cons_succ]
  try simp only [List.getElem_cons_zero]
  try simp only [Act.put]
  try simp only [List.setIfInBounds_toArray]
  try simp only [List.set_cons_succ]
  try simp only [List.set_cons_zero]
  refine wpAnyH_take (i := 5) (v := ?_) rfl (by kernel_rfl) (by kernel_rfl) (by kernel_rfl) (fun _ _ _ h => h) (Or.inl ⟨by kernel_rfl, fun W hSW => by go_simp; try with_reducible rfl⟩) (by assumption) ?_
  try simp only [List.getElem_toArray]
  try simp only [List.getElem_cons_succ]
  try simp only [List.getElem_cons_zero]
  try simp only [Act.put]
  try simp only [List.setIfInBounds_toArray]
  try simp only [List.set_cons_succ]
  try simp only [List.set_cons_zero]
  refine wpAnyH_take (i := 8) (v := ?_) rfl (by kernel_rfl) (by kernel_rfl) (by kernel_rfl) (fun _ _ _ h => h) (Or.inl ⟨by kernel_rfl, fun W hSW => by go_simp; try with_reducible rfl⟩) (by assumption) ?_
  try simp only [List.getElem_toArray]
  try simp only [List.getElem_cons_succ]
  try simp only [List.getElem_cons_zero]
  try simp only [Act.put]
  try simp only [List.setIfInBounds_toArray]
  try simp only [List.set_cons_succ]
  try simp only [List.set_cons_zero]
  refine wpAnyH_ready (rs := [0]) (by kernel_rfl) (by simp) ?_
  refine AllReadyH.cons rfl (fun K hK => ?_) AllReadyH.nil
  go_simp
  refine (everyone_any _).mono ?_
  rintro e w1 ⟨rfl, hk1⟩
  have K1 : Kept (fun _ => False) w w1 := (Kept.refl (fun _ => False) w).drew.trans hk1
  refine hK.out _ _ (K1) (fun _ => ?_)
  clear hK K
  try simp only [List.getElem_toArray]
  try simp only [List.getElem_cons_succ]
  try simp only [List.getElem_cons_zero]
  try simp only [Act.put]
  try simp only [List.setIfInBounds_toArray]
  try simp only [List.set_cons_succ]
  try simp only [List.set_cons_zero]
  refine wpAnyH_ready (rs := [6]) (by kernel_rfl) (by simp) ?_
  refine AllReadyH.cons rfl (fun K hK => ?_) AllReadyH.nil
  go_simp
  refine (HWA.out _ K1).mono ?_
  rintro e w2 ⟨rfl, hk2⟩
  have K2 : Kept (fun _ => False) w w2 := K1.trans hk2
  refine hK.out _ _ (K2) (fun _ => ?_)
  clear hK K
  try simp only [List.getElem_toArray]
  try simp only [List.getElem_cons_succ]
  try simp only [List.getElem_cons_zero]
  try simp only [Act.put]
  try simp only [List.setIfInBounds_toArray]
  try simp only [List.set_cons_succ]
  try simp only [List.set_cons_zero]
  refine wpAnyH_ready (rs := [7, 9]) (by kernel_rfl) (by simp) ?_
  refine AllReadyH.cons rfl (fun K hK => ?_) (AllReadyH.cons rfl (fun K hK => ?_) AllReadyH.nil)
  · go_simp
    refine hK.out _ _ (K2.alloc _) (fun _ => ?_)
    clear hK K
    try dsimp only
    try simp only [List.getElem_toArray]
    try simp only [List.getElem_cons_succ]
    try simp only [List.getElem_cons_zero]
    try simp only [Act.put]
    try simp only [List.setIfInBounds_toArray]
    try simp only [List.set_cons_succ]
    try simp only [List.set_cons_zero]
    refine wpAnyH_ready (rs := [9]) (by kernel_rfl) (by simp) ?_
    refine AllReadyH.cons rfl (fun K hK => ?_) AllReadyH.nil
    go_simp
    refine (HMA.out _ (K2.alloc _)).mono ?_
    rintro e w3 ⟨u3, rfl, hu3, hk3⟩
    have KB : Kept (fun _ => False) w w3 := (K2.alloc (.cells #[.int .i64 257, .string h.service] 70)).trans hk3
    have OB : OwnT w3 w.heap.size (.slice (some ⟨w2.heap.size, 0, none⟩) 1 1) [wantedF h] := (own_one w2 w.heap.size K2.size 257 h.service).kept hk3
    have UB := hu3
    obtain ⟨p3, c3, rfl⟩ := slice_of hu3
    refine hK.out _ _ (KB) (fun _ => ?_)
    clear hK K
    try simp only [List.getElem_toArray]
    try simp only [List.getElem_cons_succ]
    try simp only [List.getElem_cons_zero]
    try simp only [Act.put]
    try simp only [List.setIfInBounds_toArray]
    try simp only [List.set_cons_succ]
    try simp only [List.set_cons_zero]
    obtain ⟨v4, w4, hrun4, hown4, hk4⟩ := append_run KB OB UB.tags HLN.out
    obtain ⟨p4, c4, rfl⟩ := slice_of hown4
    refine wpAnyH_ready (rs := [10]) (by kernel_rfl) (by simp) ?_
    refine AllReadyH.cons rfl (fun K hK => ?_) AllReadyH.nil
    refine step_append_run rfl (.tmp 10) (.tmp 12) 59 rfl _ _ rfl rfl (hrun4 _) ?_
    refine hK.out _ _ (hk4) (fun _ => ?_)
    clear hK K
    try simp only [List.getElem_toArray]
    try simp only [List.getElem_cons_succ]
    try simp only [List.getElem_cons_zero]
    try simp only [Act.put]
    try simp only [List.setIfInBounds_toArray]
    try simp only [List.set_cons_succ]
    try simp only [List.set_cons_zero]
    refine wpAnyH_ready (rs := [11]) (by kernel_rfl) (by simp) ?_
    refine AllReadyH.cons rfl (fun K hK => ?_) AllReadyH.nil
    go_simp
    refine (HSD.out _ _ hown4.tags).mono ?_
    rintro e w5 ⟨u5, rfl, hu5, hk5⟩
    have K5 : Kept (fun _ => False) w w5 := hk4.trans hk5
    refine hK.out _ _ (K5) (fun _ => ?_)
    clear hK K
    try simp only [List.getElem_toArray]
    try simp only [List.getElem_cons_succ]
    try simp only [List.getElem_cons_zero]
    try simp only [Act.put]
    try simp only [List.setIfInBounds_toArray]
    try simp only [List.set_cons_succ]
    try simp only [List.set_cons_zero]
    refine wpAnyH_take (i := 12) (v := ?_) rfl (by kernel_rfl) (by kernel_rfl) (by kernel_rfl) (fun _ _ _ h => h) (Or.inl ⟨by kernel_rfl, fun W hSW => by go_simp; try with_reducible rfl⟩) (by assumption) ?_
    try simp only [List.getElem_toArray]
    try simp only [List.getElem_cons_succ]
    try simp only [List.getElem_cons_zero]
    try simp only [Act.put]
    try simp only [List.setIfInBounds_toArray]
    try simp only [List.set_cons_succ]
    try simp only [List.set_cons_zero]
    refine wpAnyH_done (by kernel_rfl) ?_ _
    go_wp2
    go_ret
    exact ⟨u5, rfl, hu5.mono hk4.size, K5⟩
  · go_simp
    refine (HMA.out _ K2).mono ?_
    rintro e w3 ⟨u3, rfl, hu3, hk3⟩
    have K3 : Kept (fun _ => False) w w3 := K2.trans hk3
    obtain ⟨p3, c3, rfl⟩ := slice_of hu3
    refine hK.out _ _ (K3) (fun _ => ?_)
    clear hK K
    try simp only [List.getElem_toArray]
    try simp only [List.getElem_cons_succ]
    try simp only [List.getElem_cons_zero]
    try simp only [Act.put]
    try simp only [List.setIfInBounds_toArray]
    try simp only [List.set_cons_succ]
    try simp only [List.set_cons_zero]
    refine wpAnyH_ready (rs := [7]) (by kernel_rfl) (by simp) ?_
    refine AllReadyH.cons rfl (fun K hK => ?_) AllReadyH.nil
    go_simp
    have KB : Kept (fun _ => False) w (w3.alloc (.cells #[.int .i64 257, .string h.service] 70)) := K3.alloc _
    have OB : OwnT (w3.alloc (.cells #[.int .i64 257, .string h.service] 70)) w.heap.size (.slice (some ⟨w3.heap.size, 0, none⟩) 1 1) [wantedF h] := own_one w3 w.heap.size K3.size 257 h.service
    have UB := hu3.kept ((Kept.refl (fun _ => False) w3).alloc (.cells #[.int .i64 257, .string h.service] 70))
    refine hK.out _ _ (KB) (fun _ => ?_)
    clear hK K
    try dsimp only
    try simp only [List.getElem_toArray]
    try simp only [List.getElem_cons_succ]
    try simp only [List.getElem_cons_zero]
    try simp only [Act.put]
    try simp only [List.setIfInBounds_toArray]
    try simp only [List.set_cons_succ]
    try simp only [List.set_cons_zero]
    obtain ⟨v4, w4, hrun4, hown4, hk4⟩ := append_run KB OB UB.tags HLN.out
    obtain ⟨p4, c4, rfl⟩ := slice_of hown4
    refine wpAnyH_ready (rs := [10]) (by kernel_rfl) (by simp) ?_
    refine AllReadyH.cons rfl (fun K hK => ?_) AllReadyH.nil
    refine step_append_run rfl (.tmp 10) (.tmp 12) 59 rfl _ _ rfl rfl (hrun4 _) ?_
    refine hK.out _ _ (hk4) (fun _ => ?_)
    clear hK K
    try simp only [List.getElem_toArray]
    try simp only [List.getElem_cons_succ]
    try simp only [List.getElem_cons_zero]
    try simp only [Act.put]
    try simp only [List.setIfInBounds_toArray]
    try simp only [List.set_cons_succ]
    try simp only [List.set_cons_zero]
    refine wpAnyH_ready (rs := [11]) (by kernel_rfl) (by simp) ?_
    refine AllReadyH.cons rfl (fun K hK => ?_) AllReadyH.nil
    go_simp
    refine (HSD.out _ _ hown4.tags).mono ?_
    rintro e w5 ⟨u5, rfl, hu5, hk5⟩
    have K5 : Kept (fun _ => False) w w5 := hk4.trans hk5
    refine hK.out _ _ (K5) (fun _ => ?_)
    clear hK K
    try simp only [List.getElem_toArray]
    try simp only [List.getElem_cons_succ]
    try simp only [List.getElem_cons_zero]
    try simp only [Act.put]
    try simp only [List.setIfInBounds_toArray]
    try simp only [List.set_cons_succ]
    try simp only [List.set_cons_zero]
    refine wpAnyH_take (i := 12) (v := ?_) rfl (by kernel_rfl) (by kernel_rfl) (by kernel_rfl) (fun _ _ _ h => h) (Or.inl ⟨by kernel_rfl, fun W hSW => by go_simp; try with_reducible rfl⟩) (by assumption) ?_
    try simp only [List.getElem_toArray]
    try simp only [List.getElem_cons_succ]
    try simp only [List.getElem_cons_zero]
    try simp only [Act.put]
    try simp only [List.setIfInBounds_toArray]
    try simp only [List.set_cons_succ]
    try simp only [List.set_cons_zero]
    refine wpAnyH_done (by kernel_rfl) ?_ _
    go_wp2
    go_ret
    exact ⟨u5, rfl, hu5.mono hk4.size, K5⟩
end Go.Proofs.Ythpgmfijameddaa
